/-
  HeadersBack: a packet that is put is got, whatever stands behind its bytes, where its Next is no header's number, and it is not all of a datagram as a part; cut anywhere its bytes are too short: the law returns true for every input, and its arguments read as before.
  Conditions: none.
-/
import Derived.Test.YtfkjfdmepeahnaaLwc
import Derived.Test.YtfkjfdmepeahnaaBckP
import Derived.Deep.CutRange
namespace Go.Proofs.Ytfkjfdmepeahnaa.headersBack
set_option maxRecDepth 100000
open Go.ChangeShapes Go.WideShapes Go.ChangeAt Go.RowKit Go.Proofs.Ytfkjfdmepeahnaa.Hd Ops

theorem number_no (n : Int) (w : World) (h : ¬ (n = 0 ∨ n = 43 ∨ n = 44 ∨ n = 59 ∨ n = 60)) : Calls Try.prog 24 #[.int .u8 n] w fun e w' => e = .returned (.bool false) ∧ w = w' := by
  have d0 : (n == 0) = false := by simp; omega
  have d1 : (n == 43) = false := by simp; omega
  have d2 : (n == 44) = false := by simp; omega
  have d3 : (n == 59) = false := by simp; omega
  have d4 : (n == 60) = false := by simp; omega
  clear h
  go_enter Try.func24, Try.ntmps24
  go_wp2_with fail
  go_ret
  exact ⟨rfl, rfl⟩
theorem number_yes (n : Int) (w : World) (h : n = 0 ∨ n = 43 ∨ n = 44 ∨ n = 59 ∨ n = 60) : Calls Try.prog 24 #[.int .u8 n] w fun e w' => e = .returned (.bool true) ∧ w = w' := by
  rcases h with rfl | rfl | rfl | rfl | rfl
  · go_enter Try.func24, Try.ntmps24
    go_wp2_with fail
    go_ret
    exact ⟨rfl, rfl⟩
  · go_enter Try.func24, Try.ntmps24
    go_wp2_with fail
    go_ret
    exact ⟨rfl, rfl⟩
  · go_enter Try.func24, Try.ntmps24
    go_wp2_with fail
    go_ret
    exact ⟨rfl, rfl⟩
  · go_enter Try.func24, Try.ntmps24
    go_wp2_with fail
    go_ret
    exact ⟨rfl, rfl⟩
  · go_enter Try.func24, Try.ntmps24
    go_wp2_with fail
    go_ret
    exact ⟨rfl, rfl⟩
/-- all that the law is handed -/
structure Fits (W : World) (k : Pk) (A : Option Addr) (n c : Nat) (zs : List Int) (B : Option Addr) (m d : Nat) (ys : List Int) (q : Int) : Prop where
  p : FitsP W k A n c zs
  b : Slc W (.slice B m d) ys
  y : Byt ys
  q : 0 ≤ q ∧ q ≤ 65535
  n : n ≤ 2000
  m : m ≤ 1000
  next : ¬ Numb k.next
theorem same_of {k1 k2 : Pk} (e : k1 = k2) (A B : Option Addr) (n c c' : Nat) (zs : List Int) (w : World) (M : Hd.Ends k2) (hl : zs.length = n) (hn : n ≤ maxLen) (ha : Rd w A zs) (hb : Rd w B zs) :
    Calls Try.prog 20 #[pv k1 (.slice A n c), pv k2 (.slice B n c')] w fun e w' => e = .returned (.bool true) ∧ Below w.heap.size w w' := by
  subst e
  exact samePacket_true k1 A B n c c' zs w M hl hn ha hb
theorem hdr_one (f : Fg) : ∀ x ∈ fgc f, x.oneCell' = true := fgc_one'
theorem flt_none (w : World) : (binOp .eql 45 (.agg (flc 0 0).toArray) (.agg #[.int .u8 0, .int .u32 0])).run Try.prog w = .ok (.bool true) w := by kernel_rfl
theorem frag_made (w : World) : (Instr.build 27 #[]).run Try.prog w = .ok (.agg (fgc {}).toArray) w := by kernel_rfl
theorem flt_made (w : World) : (Instr.build 45 #[]).run Try.prog w = .ok (.agg #[.int .u8 0, .int .u32 0]) w := by kernel_rfl
theorem rem_cut {q : Int} {n : Nat} (hq : 0 ≤ q ∧ q ≤ 65535) (hn : 0 < n) : ∃ m : Nat, IntKind.i64.wrap (q.tmod (n : Int)) = (m : Int) ∧ q.tmod (n : Int) = (m : Int) ∧ m < n := by
  refine ⟨(q % n).toNat, ?_⟩
  have h1 : q.tmod (n : Int) = q % n := Int.tmod_eq_emod_of_nonneg hq.1
  have h2 := Int.emod_nonneg q (show (n : Int) ≠ 0 by omega)
  have h3 := Int.emod_lt_of_pos q (show (0 : Int) < n by omega)
  have h4 : q % (n : Int) ≤ q := by
    have := Int.mul_ediv_add_emod q n
    have := Int.mul_nonneg (show (0 : Int) ≤ n by omega) (Int.ediv_nonneg hq.1 (show (0 : Int) ≤ n by omega))
    omega
  have h5 : ((q % (n : Int)).toNat : Int) = q % n := by omega
  rw [h1, h5]
  exact ⟨by rw [IntKind.wrap_i64]; omega, rfl, by omega⟩

set_option linter.unusedSimpArgs false in
set_option maxHeartbeats 16000000 in
theorem walk_no (k0 : Pk) (A : Option Addr) (n c : Nat) (zs : List Int) (B : Option Addr) (m d : Nat) (ys : List Int) (q : Int) (w : World) (H : Fits w k0 A n c zs B m d ys q) (hi : k0.frag.is = false) :
    Calls Try.prog 6 #[pv k0 (.slice A n c), .slice B m d, .int .u16 q] w fun e w' => e = .returned (.bool true) ∧ Below w.heap.size w w' := by
  have hF := H.p
  have Y0 := (Lay.begin w).new (pc k0 (.slice A n c)) 30 (g := w.heap.size) rfl
  have P0 := pktAt Y0 mem0 hF.m
  have y0 := P0.body
  have y1 := P0.next
  have y2 : (w.alloc (.cells (pc k0 (.slice A n c)).toArray 30)).cell? ⟨w.heap.size, 34, none⟩ = some (.bool false) := by
    have := Y0.look mem0 (pc_frag hF.m 0 _ rfl)
    rw [show k0.frag.is = false from hi] at this
    exact this
  have HB := veil H
  have KN := veil (number_no k0.next (w.alloc (.cells (pc k0 (.slice A n c)).toArray 30)) H.next)
  have i1 : ¬ (2000 : Int) < (n : Int) := by have := H.n; omega
  have i2 : ¬ (1000 : Int) < (m : Int) := by have := H.m; omega
  have VY := veil Y0
  have VI := veil hi
  have TF := veil (store_part (P := Try.prog) (o := 34) (ty := 27) (vs := fgc {}) (Y0.at mem0) (by rw [pc_len hF.m]; decide) sizeFg fgc_one')
  have Y9 := Y0.put 0 rfl (pc { k0 with frag := {} } (.slice A n c))
  simp only [List.set_cons_zero, List.set_cons_succ] at Y9
  rw [pc_put_frag hF.m] at TF
  obtain ⟨k, hk⟩ : ∃ k : Pk, k = { k0 with frag := {} } := ⟨_, rfl⟩
  rw [← hk] at TF Y9
  have hF' : FitsP w k A n c zs := by
    rw [hk]
    exact ⟨⟨hF.m.s, hF.m.d⟩, ⟨hF.v.hops, hF.v.next, (by show (0 : Int) ≤ 0 ∧ (0 : Int) < 65536; omega), (by show (0 : Int) ≤ 0 ∧ (0 : Int) < 4294967296; omega)⟩, hF.slc, hF.len, hF.byt, hF.bs, hF.bd⟩
  have HB' : Hid (Fits w k A n c zs B m d ys q) := veil ⟨hF', H.b, H.y, H.q, H.n, H.m, by rw [hk]; exact H.next⟩
  have hki := veil (show k.frag = {} by rw [hk])
  have L0 := veil (pktAt Y9 mem0 hF'.m).all
  replace VY := veil Y9
  obtain ⟨w0, hw0⟩ : ∃ u, (w.alloc (.cells (pc k0 (.slice A n c)).toArray 30)).setRow w.heap.size (pc k (.slice A n c)).toArray = u := ⟨_, rfl⟩
  rw [hw0] at TF L0 VY
  clear Y0 Y9 P0 hF hF' H hi hw0 hk
  go_enter Try.func6, Try.ntmps6
  go_wp2_with fail
  refine (KN.out).mono ?_
  rintro e w9 ⟨rfl, rfl⟩
  clear KN
  replace HB := HB'
  clear HB'
  go_upto_region 5 with (first
    | (refine wpList_build_of rfl 27 #[] rfl #[] (by simp) (frag_made _) ?_)
    | (refine wpList_store_of rfl _ _ rfl rfl rfl TF.out ?_))
  clear TF y0 y1 y2
  have VBK : Hid (Backs k n) := veil (⟨HB.out.p.m, HB.out.p.v, HB.out.next, fun _ => hki.out, by rw [show OkP k n = (sizeP k n ≤ 65535 ∧ (k.frag.is = true → k.frag.off ≤ 8191)) from rfl, hki.out]; exact ⟨by unfold sizeP; rw [hki.out]; have := HB.out.n; split <;> simp <;> omega, fun h => by cases h⟩⟩)
  have hzl : zs.length = n := HB.out.p.len
  have VBZ : Hid (Backs k zs.length) := veil (by rw [hzl]; exact VBK.out)
  have VBE : Hid (Hd.Ends (backK k)) := veil (back_ends VBK.out.m)
  have K1 := veil (codePut_ok k A n c zs w0 VBK.out.m VBK.out.v (HB.out.p.slc.keep VY.out.below) VBK.out.ok)
  have hbl := back_len VBK.out zs
  have hbu : (pb k zs).length ≤ 70000 := by
    have h1 := VBK.out.ok.1
    have h2 := size_len k zs
    have h3 := pb_len k VBK.out.m zs
    rw [hzl] at h2
    omega
  have VLB := veil (And.intro hbl hbu)
  clear hbl hbu
  go_wp2_with (refine wpList_load_of rfl (.tmp 3) rfl rfl L0.out ?_)
  refine (K1.out).mono ?_
  rintro e w1 ⟨gb, nb, hgb, hnb, rfl, rb, q1⟩
  have Y1 := VY.out.got q1 rb hgb
  have hnb1 : 40 + (n : Int) ≤ (nb : Int) := by have := VLB.out.1; omega
  have hnb2 : (nb : Int) ≤ 70000 := by have := VLB.out.2; omega
  have i3 : ¬ (nb : Int) < 40 + (n : Int) := by omega
  have i4 : ¬ (nb : Int) = 0 := by omega
  have i5 := HB.out.q.1
  have i6 := HB.out.q.2
  have z0 := Y1.look mem1 (pc_body VBK.out.m)
  obtain ⟨mm, hm1, hm2, hm3⟩ := rem_cut HB.out.q (n := nb) (by omega)
  have hms := veil hm3
  have E78 := fun u => slice_hi (A := some ⟨gb, 0, none⟩) (n := nb) (c := nb) (k := mm) (by omega) u
  have S1 : Slc w1 (.slice (some ⟨gb, 0, none⟩) mm nb) ((pb k zs).take mm) := slc_part (Y1.at mem0) (by
    intro j u hj
    rw [Nat.zero_add]
    have : bv ((pb k zs).take mm) = (bv (pb k zs)).take mm := by simp [bv]
    rw [this, List.getElem?_take] at hj
    split at hj
    · exact hj
    · cases hj) (by rw [List.length_take]; omega) (by omega)
  have VPB := veil (pb_byt VBZ.out HB.out.p.bs HB.out.p.bd HB.out.p.byt)
  have K2 := codeGet (some ⟨gb, 0, none⟩) mm nb ((pb k zs).take mm) w1 S1 (VPB.out.take mm) (by rw [List.length_take]; omega) (by omega)
  rw [get_cut VBZ.out (by omega)] at K2
  unfold GotB at K2
  replace K2 := veil K2
  have hnbv := veil hnb
  have VY1 := veil Y1
  clear K1 VY rb q1 hgb Y1 S1 hm3 hnb L0
  go_wp2_with (first
    | (refine wpList_slhi_of rfl _ (.tmp 72) (.tmp 77) rfl rfl (by simp only [hm1, hm2]; rfl) (E78 _) ?_))
  refine (K2.out).mono ?_
  rintro e w2 ⟨A2, n2, rfl, hR, q2⟩
  have Y2 := VY1.out.keep q2
  obtain ⟨ZF, hZF⟩ : ∃ Z : Array Value, Z = zp := ⟨_, rfl⟩
  obtain ⟨ZX, hZX⟩ : ∃ Z : Array Value, Z = #[.int .u8 0, .int .u32 0] := ⟨_, rfl⟩
  have hzf : Hid (ZF.toList.length = 40) := by rw [hZF]; exact rfl
  have hzx : Hid (ZX.toList.length = 2) := by rw [hZX]; exact rfl
  have Y3 := (Y2.newA ZF 30 (g := w2.heap.size) rfl).newA ZX 45 (g := w2.heap.size + 1) (by simp)
  have T1 := veil (pkt_store (k := noPk) (v := .slice A2 n2 n2) Y3 mem1 hzf.out noPk_ends rfl)
  have Y4 := Y3.put 1 rfl (pc noPk (.slice A2 n2 n2))
  simp only [List.set_cons_zero, List.set_cons_succ] at Y4
  have T2 := veil (store_all (P := Try.prog) (ty := 45) (vs := flc 0 0) (Y4.at mem0) (by rw [hzx.out]; rfl) (sizeFl _ _) (one_fl _ _))
  have Y5 := Y4.put 0 rfl (flc 0 0)
  simp only [List.set_cons_zero, List.set_cons_succ] at Y5
  have q4 := below_setRow (below_setRow ((below_new w2 (.cells ZF 30)).trans ((below_new _ (.cells ZX 45)).mono (by simp))) w2.heap.size (pc noPk (.slice A2 n2 n2)).toArray (Nat.le_refl _)) (w2.heap.size + 1) (flc 0 0).toArray (by omega)
  obtain ⟨u2, hu⟩ : ∃ u, (((w2.alloc (.cells ZF 30)).alloc (.cells ZX 45)).setRow w2.heap.size (pc noPk (.slice A2 n2 n2)).toArray).setRow (w2.heap.size + 1) (flc 0 0).toArray = u := ⟨_, rfl⟩
  rw [hu] at T2 Y5 q4
  generalize ZF.toList = ZFL at *
  generalize ZX.toList = ZXL at *
  unfold zp at hZF
  subst hZF hZX
  have YS := Y5.sub (L' := [(gb, 5, bv (pb k zs)), (w.heap.size, 30, pc k (.slice A n c))]) (List.Sublist.cons _ (List.Sublist.cons _ (List.Sublist.cons_cons _ (List.Sublist.cons_cons _ (List.nil_sublist _)))))
  have S2 : Slc u2 (.slice (some ⟨gb, 0, none⟩) nb nb) (pb k zs) := slc_part (YS.at mem0) (part_all _) hnbv.out.symm (Nat.le_refl _)
  obtain ⟨v3, w3, ha3, G3⟩ := (Grow.begin YS).append S2 (by have := VLB.out.2; simp; omega) 28
  rw [List.nil_append] at G3
  have hym := (slc_of HB.out.b).1
  obtain ⟨v4, w4, ha4, G4⟩ := G3.append (HB.out.b.keep G3.lay.below) (by have := VLB.out.2; have := HB.out.m; omega) 28
  obtain ⟨A5, c5, e5, _, _⟩ := G4.own.slc.slice
  subst e5
  have hl5 : (pb k zs ++ ys).length ≤ 16000000 := by rw [List.length_append]; have := VLB.out.2; have := HB.out.m; omega
  have K3 := codeGet A5 (pb k zs ++ ys).length c5 (pb k zs ++ ys) w4 G4.own.slc (fun z hz => (List.mem_append.1 hz).elim (VPB.out z) (HB.out.y z)) rfl hl5
  rw [get_whole VBZ.out] at K3
  obtain ⟨kb, hkb0⟩ : ∃ x, x = backK k := ⟨_, rfl⟩
  rw [← hkb0] at K3
  have VBE : Hid (Hd.Ends kb) := veil (by rw [hkb0]; exact VBE.out)
  have HK := veil hkb0
  clear hkb0
  unfold GotB at K3
  replace K3 := veil K3
  have H3 := veil ha3
  have H4 := veil ha4
  have VY2 := veil G4.lay
  clear ha3 ha4 G3 G4 S2 YS Y2 Y3 Y4 Y5 q4 hu q2 hR K2 VY1 E78 hl5 hym hnbv hm1 hm2 hnb1 hnb2 i1 i2 i3 i4 i5 i6 z0 VPB VLB VBZ
  try clear y0
  try clear y1
  try clear y2
  generalize (pb k zs ++ ys).length = n5 at *
  go_wp2_with (first
    | (refine wpList_store_of rfl _ _ rfl rfl rfl T1.out ?_)
    | (refine wpList_store_of rfl _ _ rfl rfl rfl T2.out ?_)
    | (at_builtin; refine wpList_append_run rfl (.const (.slice none 0 0)) (.tmp 84) rfl rfl rfl H3.out ?_)
    | (at_builtin; refine wpList_append_run rfl (.tmp 85) (.tmp 86) rfl rfl rfl H4.out ?_))
  clear T1 T2 hzf hzx H3 H4
  refine (K3.out).mono ?_
  rintro e w5 ⟨A6, n6, rfl, hR6, q6⟩
  obtain rfl : n6 = n := (rest_len hR6).trans hzl
  have VR6 := veil hR6
  have Y6 := VY2.out.keep q6
  obtain ⟨ZF, hZF⟩ : ∃ Z : Array Value, Z = zp := ⟨_, rfl⟩
  obtain ⟨ZX, hZX⟩ : ∃ Z : Array Value, Z = #[.int .u8 0, .int .u32 0] := ⟨_, rfl⟩
  have hzf : Hid (ZF.toList.length = 40) := by rw [hZF]; exact rfl
  have hzx : Hid (ZX.toList.length = 2) := by rw [hZX]; exact rfl
  have Y3 := (Y6.newA ZF 30 (g := w5.heap.size) rfl).newA ZX 45 (g := w5.heap.size + 1) (by simp)
  have T1 := veil (pkt_store (k := kb) (v := .slice A6 n6 n6) Y3 mem1 hzf.out VBE.out rfl)
  have Y4 := Y3.put 1 rfl (pc kb (.slice A6 n6 n6))
  simp only [List.set_cons_zero, List.set_cons_succ] at Y4
  have T2 := veil (store_all (P := Try.prog) (ty := 45) (vs := flc 0 0) (Y4.at mem0) (by rw [hzx.out]; rfl) (sizeFl _ _) (one_fl _ _))
  have Y5 := Y4.put 0 rfl (flc 0 0)
  simp only [List.set_cons_zero, List.set_cons_succ] at Y5
  have q4 := below_setRow (below_setRow ((below_new w5 (.cells ZF 30)).trans ((below_new _ (.cells ZX 45)).mono (by simp))) w5.heap.size (pc kb (.slice A6 n6 n6)).toArray (Nat.le_refl _)) (w5.heap.size + 1) (flc 0 0).toArray (by omega)
  obtain ⟨u5, hu⟩ : ∃ u, (((w5.alloc (.cells ZF 30)).alloc (.cells ZX 45)).setRow w5.heap.size (pc kb (.slice A6 n6 n6)).toArray).setRow (w5.heap.size + 1) (flc 0 0).toArray = u := ⟨_, rfl⟩
  rw [hu] at T2 Y5 q4
  generalize ZF.toList = ZFL at *
  generalize ZX.toList = ZXL at *
  unfold zp at hZF
  subst hZF hZX
  have VR7 : Hid (RestOf w4 u5 zs A6 n6) := veil (by
    rcases VR6.out with h | ⟨b, o, xs, h1, h2, h3, h4⟩
    · exact .inl h
    · exact .inr ⟨b, o, xs, h1, h2, h3.keep q4, h4⟩)
  have hwl := veil (VY2.out.lt mem1)
  have hR7 : Slc u5 (.slice A6 n6 n6) zs := (rest_slc VR6.out).keep q4
  have YS := Y5.sub (L' := [(w5.heap.size + 1, 45, flc 0 0), (w5.heap.size, 30, pc kb (.slice A6 n6 n6)), (w.heap.size, 30, pc k (.slice A n6 c))]) (List.Sublist.cons_cons _ (List.Sublist.cons_cons _ (List.Sublist.cons _ (List.Sublist.cons_cons _ (List.nil_sublist _)))))
  have z1 : u5.cell? ⟨w.heap.size, 34, none⟩ = some (.bool k.frag.is) := YS.look mem2 (pc_frag VBK.out.m 0 _ rfl)
  have z2 : u5.cell? ⟨w.heap.size, 36, none⟩ = some (.int .u16 k.frag.off) := YS.look mem2 (pc_frag VBK.out.m 2 _ rfl)
  have z3 : u5.cell? ⟨w.heap.size, 37, none⟩ = some (.bool k.frag.more) := YS.look mem2 (pc_frag VBK.out.m 3 _ rfl)
  have HA := veil (HB.out.p.slc.keep YS.below)
  rw [hki.out] at z1
  have hbk := veil (show k = kb by rw [HK.out]; unfold backK; rw [if_neg (by rw [hki.out]; simp)])
  have VY5 := veil YS
  have VS6 := veil hR7
  clear Y3 Y4 Y5 Y6 YS hR6 hR7 q4 q6 hu VR6 VY2 K3
  have SP := veil (same_of (k1 := k) (k2 := kb) (hbk.out) A A6 n6 c n6 zs u5 VBE.out hzl (by have := HB.out.n; unfold maxLen; omega) (slc_rd (HA.out)).1 (slc_rd (VS6.out)).1)
  have L3 : Hid (∀ v, v = Value.agg #[.int .u8 0, .int .u32 0] → (Instr.loadAt 45 (.pointer (some ⟨w5.heap.size + 1, 0, none⟩))).run Try.prog u5 = .ok v u5) := veil (fun v hv => by
    subst hv
    exact VY5.out.load mem0 (part_all _) Try.underlying45 rfl (sizeFl 0 0))
  have L4 := veil (pktAt VY5.out mem2 VBK.out.m).all
  have L5 := veil (pktAt VY5.out mem1 VBE.out).all
  have VYF := veil VY5.out
  clear z2 z3
  go_wp2_with (first
    | (refine wpList_store_of rfl _ _ rfl rfl rfl T1.out ?_)
    | (refine wpList_store_of rfl _ _ rfl rfl rfl T2.out ?_)
    | (refine wpList_build_of rfl 45 #[] rfl #[] (by simp) (flt_made _) ?_)
    | (refine wpList_load_of rfl (.tmp 13) rfl rfl (L3.out _ rfl) ?_)
    | (refine wpList_load_of rfl (.tmp 3) rfl rfl L4.out ?_)
    | (refine wpList_load_of rfl (.tmp 12) rfl rfl L5.out ?_))
  refine (SP.out).mono ?_
  rintro e w7 ⟨rfl, q7⟩
  have Q7 := veil (VYF.out.below.trans (q7.mono VYF.out.below.size))
  clear SP q7 VYF L3 L4 L5
  clear z1 HK VBE VBK HB VI
  try clear VS6 HA
  try clear d0
  try clear z2 z3
  try clear hbk
  try clear hzl
  go_wp2_with fail
  refine (lives_true _).mono ?_
  rintro e w8 ⟨rfl, q8⟩
  go_wp2_with fail
  go_ret
  exact ⟨rfl, Q7.out.trans (q8.mono Q7.out.size)⟩

set_option linter.unusedSimpArgs false in
set_option maxHeartbeats 16000000 in
theorem walk_off (k : Pk) (A : Option Addr) (n c : Nat) (zs : List Int) (B : Option Addr) (m d : Nat) (ys : List Int) (q : Int) (w : World) (H : Fits w k A n c zs B m d ys q) (hi : k.frag.is = true) (ho : k.frag.off ≤ 8191) (hx : ¬ k.frag.off = 0) :
    Calls Try.prog 6 #[pv k (.slice A n c), .slice B m d, .int .u16 q] w fun e w' => e = .returned (.bool true) ∧ Below w.heap.size w w' := by
  have hF := H.p
  have Y0 := (Lay.begin w).new (pc k (.slice A n c)) 30 (g := w.heap.size) rfl
  have P0 := pktAt Y0 mem0 hF.m
  have y0 := P0.body
  have y1 := P0.next
  have y2 : (w.alloc (.cells (pc k (.slice A n c)).toArray 30)).cell? ⟨w.heap.size, 34, none⟩ = some (.bool true) := by
    have := Y0.look mem0 (pc_frag hF.m 0 _ rfl)
    rw [show k.frag.is = true from hi] at this
    exact this
  have HB := veil H
  have KN := veil (number_no k.next (w.alloc (.cells (pc k (.slice A n c)).toArray 30)) H.next)
  have i1 : ¬ (2000 : Int) < (n : Int) := by have := H.n; omega
  have i2 : ¬ (1000 : Int) < (m : Int) := by have := H.m; omega
  have VY := veil Y0
  have VI := veil hi
  have VO := veil ho
  have VX := veil hx
  have L0 := veil P0.all
  clear hF Y0 P0 H hi ho hx
  go_enter Try.func6, Try.ntmps6
  go_wp2_with fail
  refine (KN.out).mono ?_
  rintro e w9 ⟨rfl, rfl⟩
  clear KN
  have VBK : Hid (Backs k n) := veil (⟨HB.out.p.m, HB.out.p.v, HB.out.next, fun h => (by rw [VI.out] at h; cases h), ⟨by unfold sizeP; have := HB.out.n; split <;> split <;> omega, fun _ => VO.out⟩⟩)
  have hzl : zs.length = n := HB.out.p.len
  have VBZ : Hid (Backs k zs.length) := veil (by rw [hzl]; exact VBK.out)
  have VBE : Hid (Hd.Ends (backK k)) := veil (back_ends VBK.out.m)
  have K1 := veil (codePut_ok k A n c zs (w.alloc (.cells (pc k (.slice A n c)).toArray 30)) VBK.out.m VBK.out.v (HB.out.p.slc.keep VY.out.below) VBK.out.ok)
  have hbl := back_len VBK.out zs
  have hbu : (pb k zs).length ≤ 70000 := by
    have h1 := VBK.out.ok.1
    have h2 := size_len k zs
    have h3 := pb_len k VBK.out.m zs
    rw [hzl] at h2
    omega
  have VLB := veil (And.intro hbl hbu)
  clear hbl hbu
  go_wp2_with (refine wpList_load_of rfl (.tmp 3) rfl rfl L0.out ?_)
  refine (K1.out).mono ?_
  rintro e w1 ⟨gb, nb, hgb, hnb, rfl, rb, q1⟩
  have Y1 := VY.out.got q1 rb hgb
  have hnb1 : 40 + (n : Int) ≤ (nb : Int) := by have := VLB.out.1; omega
  have hnb2 : (nb : Int) ≤ 70000 := by have := VLB.out.2; omega
  have i3 : ¬ (nb : Int) < 40 + (n : Int) := by omega
  have i4 : ¬ (nb : Int) = 0 := by omega
  have i5 := HB.out.q.1
  have i6 := HB.out.q.2
  have z0 := Y1.look mem1 (pc_body VBK.out.m)
  obtain ⟨mm, hm1, hm2, hm3⟩ := rem_cut HB.out.q (n := nb) (by omega)
  have hms := veil hm3
  have E78 := fun u => slice_hi (A := some ⟨gb, 0, none⟩) (n := nb) (c := nb) (k := mm) (by omega) u
  have S1 : Slc w1 (.slice (some ⟨gb, 0, none⟩) mm nb) ((pb k zs).take mm) := slc_part (Y1.at mem0) (by
    intro j u hj
    rw [Nat.zero_add]
    have : bv ((pb k zs).take mm) = (bv (pb k zs)).take mm := by simp [bv]
    rw [this, List.getElem?_take] at hj
    split at hj
    · exact hj
    · cases hj) (by rw [List.length_take]; omega) (by omega)
  have VPB := veil (pb_byt VBZ.out HB.out.p.bs HB.out.p.bd HB.out.p.byt)
  have K2 := codeGet (some ⟨gb, 0, none⟩) mm nb ((pb k zs).take mm) w1 S1 (VPB.out.take mm) (by rw [List.length_take]; omega) (by omega)
  rw [get_cut VBZ.out (by omega)] at K2
  unfold GotB at K2
  replace K2 := veil K2
  have hnbv := veil hnb
  have VY1 := veil Y1
  clear K1 VY rb q1 hgb Y1 S1 hm3 hnb L0
  go_wp2_with (first
    | (refine wpList_slhi_of rfl _ (.tmp 72) (.tmp 77) rfl rfl (by simp only [hm1, hm2]; rfl) (E78 _) ?_))
  refine (K2.out).mono ?_
  rintro e w2 ⟨A2, n2, rfl, hR, q2⟩
  have Y2 := VY1.out.keep q2
  obtain ⟨ZF, hZF⟩ : ∃ Z : Array Value, Z = zp := ⟨_, rfl⟩
  obtain ⟨ZX, hZX⟩ : ∃ Z : Array Value, Z = #[.int .u8 0, .int .u32 0] := ⟨_, rfl⟩
  have hzf : Hid (ZF.toList.length = 40) := by rw [hZF]; exact rfl
  have hzx : Hid (ZX.toList.length = 2) := by rw [hZX]; exact rfl
  have Y3 := (Y2.newA ZF 30 (g := w2.heap.size) rfl).newA ZX 45 (g := w2.heap.size + 1) (by simp)
  have T1 := veil (pkt_store (k := noPk) (v := .slice A2 n2 n2) Y3 mem1 hzf.out noPk_ends rfl)
  have Y4 := Y3.put 1 rfl (pc noPk (.slice A2 n2 n2))
  simp only [List.set_cons_zero, List.set_cons_succ] at Y4
  have T2 := veil (store_all (P := Try.prog) (ty := 45) (vs := flc 0 0) (Y4.at mem0) (by rw [hzx.out]; rfl) (sizeFl _ _) (one_fl _ _))
  have Y5 := Y4.put 0 rfl (flc 0 0)
  simp only [List.set_cons_zero, List.set_cons_succ] at Y5
  have q4 := below_setRow (below_setRow ((below_new w2 (.cells ZF 30)).trans ((below_new _ (.cells ZX 45)).mono (by simp))) w2.heap.size (pc noPk (.slice A2 n2 n2)).toArray (Nat.le_refl _)) (w2.heap.size + 1) (flc 0 0).toArray (by omega)
  obtain ⟨u2, hu⟩ : ∃ u, (((w2.alloc (.cells ZF 30)).alloc (.cells ZX 45)).setRow w2.heap.size (pc noPk (.slice A2 n2 n2)).toArray).setRow (w2.heap.size + 1) (flc 0 0).toArray = u := ⟨_, rfl⟩
  rw [hu] at T2 Y5 q4
  generalize ZF.toList = ZFL at *
  generalize ZX.toList = ZXL at *
  unfold zp at hZF
  subst hZF hZX
  have YS := Y5.sub (L' := [(gb, 5, bv (pb k zs)), (w.heap.size, 30, pc k (.slice A n c))]) (List.Sublist.cons _ (List.Sublist.cons _ (List.Sublist.cons_cons _ (List.Sublist.cons_cons _ (List.nil_sublist _)))))
  have S2 : Slc u2 (.slice (some ⟨gb, 0, none⟩) nb nb) (pb k zs) := slc_part (YS.at mem0) (part_all _) hnbv.out.symm (Nat.le_refl _)
  obtain ⟨v3, w3, ha3, G3⟩ := (Grow.begin YS).append S2 (by have := VLB.out.2; simp; omega) 28
  rw [List.nil_append] at G3
  have hym := (slc_of HB.out.b).1
  obtain ⟨v4, w4, ha4, G4⟩ := G3.append (HB.out.b.keep G3.lay.below) (by have := VLB.out.2; have := HB.out.m; omega) 28
  obtain ⟨A5, c5, e5, _, _⟩ := G4.own.slc.slice
  subst e5
  have hl5 : (pb k zs ++ ys).length ≤ 16000000 := by rw [List.length_append]; have := VLB.out.2; have := HB.out.m; omega
  have K3 := codeGet A5 (pb k zs ++ ys).length c5 (pb k zs ++ ys) w4 G4.own.slc (fun z hz => (List.mem_append.1 hz).elim (VPB.out z) (HB.out.y z)) rfl hl5
  rw [get_whole VBZ.out] at K3
  obtain ⟨kb, hkb0⟩ : ∃ x, x = backK k := ⟨_, rfl⟩
  rw [← hkb0] at K3
  have VBE : Hid (Hd.Ends kb) := veil (by rw [hkb0]; exact VBE.out)
  have HK := veil hkb0
  clear hkb0
  unfold GotB at K3
  replace K3 := veil K3
  have H3 := veil ha3
  have H4 := veil ha4
  have VY2 := veil G4.lay
  clear ha3 ha4 G3 G4 S2 YS Y2 Y3 Y4 Y5 q4 hu q2 hR K2 VY1 E78 hl5 hym hnbv hm1 hm2 hnb1 hnb2 i1 i2 i3 i4 i5 i6 z0 VPB VLB VBZ
  try clear y0
  try clear y1
  try clear y2
  generalize (pb k zs ++ ys).length = n5 at *
  go_wp2_with (first
    | (refine wpList_store_of rfl _ _ rfl rfl rfl T1.out ?_)
    | (refine wpList_store_of rfl _ _ rfl rfl rfl T2.out ?_)
    | (at_builtin; refine wpList_append_run rfl (.const (.slice none 0 0)) (.tmp 84) rfl rfl rfl H3.out ?_)
    | (at_builtin; refine wpList_append_run rfl (.tmp 85) (.tmp 86) rfl rfl rfl H4.out ?_))
  clear T1 T2 hzf hzx H3 H4
  refine (K3.out).mono ?_
  rintro e w5 ⟨A6, n6, rfl, hR6, q6⟩
  obtain rfl : n6 = n := (rest_len hR6).trans hzl
  have VR6 := veil hR6
  have Y6 := VY2.out.keep q6
  obtain ⟨ZF, hZF⟩ : ∃ Z : Array Value, Z = zp := ⟨_, rfl⟩
  obtain ⟨ZX, hZX⟩ : ∃ Z : Array Value, Z = #[.int .u8 0, .int .u32 0] := ⟨_, rfl⟩
  have hzf : Hid (ZF.toList.length = 40) := by rw [hZF]; exact rfl
  have hzx : Hid (ZX.toList.length = 2) := by rw [hZX]; exact rfl
  have Y3 := (Y6.newA ZF 30 (g := w5.heap.size) rfl).newA ZX 45 (g := w5.heap.size + 1) (by simp)
  have T1 := veil (pkt_store (k := kb) (v := .slice A6 n6 n6) Y3 mem1 hzf.out VBE.out rfl)
  have Y4 := Y3.put 1 rfl (pc kb (.slice A6 n6 n6))
  simp only [List.set_cons_zero, List.set_cons_succ] at Y4
  have T2 := veil (store_all (P := Try.prog) (ty := 45) (vs := flc 0 0) (Y4.at mem0) (by rw [hzx.out]; rfl) (sizeFl _ _) (one_fl _ _))
  have Y5 := Y4.put 0 rfl (flc 0 0)
  simp only [List.set_cons_zero, List.set_cons_succ] at Y5
  have q4 := below_setRow (below_setRow ((below_new w5 (.cells ZF 30)).trans ((below_new _ (.cells ZX 45)).mono (by simp))) w5.heap.size (pc kb (.slice A6 n6 n6)).toArray (Nat.le_refl _)) (w5.heap.size + 1) (flc 0 0).toArray (by omega)
  obtain ⟨u5, hu⟩ : ∃ u, (((w5.alloc (.cells ZF 30)).alloc (.cells ZX 45)).setRow w5.heap.size (pc kb (.slice A6 n6 n6)).toArray).setRow (w5.heap.size + 1) (flc 0 0).toArray = u := ⟨_, rfl⟩
  rw [hu] at T2 Y5 q4
  generalize ZF.toList = ZFL at *
  generalize ZX.toList = ZXL at *
  unfold zp at hZF
  subst hZF hZX
  have VR7 : Hid (RestOf w4 u5 zs A6 n6) := veil (by
    rcases VR6.out with h | ⟨b, o, xs, h1, h2, h3, h4⟩
    · exact .inl h
    · exact .inr ⟨b, o, xs, h1, h2, h3.keep q4, h4⟩)
  have hwl := veil (VY2.out.lt mem1)
  have hR7 : Slc u5 (.slice A6 n6 n6) zs := (rest_slc VR6.out).keep q4
  have YS := Y5.sub (L' := [(w5.heap.size + 1, 45, flc 0 0), (w5.heap.size, 30, pc kb (.slice A6 n6 n6)), (w.heap.size, 30, pc k (.slice A n6 c))]) (List.Sublist.cons_cons _ (List.Sublist.cons_cons _ (List.Sublist.cons _ (List.Sublist.cons_cons _ (List.nil_sublist _)))))
  have z1 : u5.cell? ⟨w.heap.size, 34, none⟩ = some (.bool k.frag.is) := YS.look mem2 (pc_frag VBK.out.m 0 _ rfl)
  have z2 : u5.cell? ⟨w.heap.size, 36, none⟩ = some (.int .u16 k.frag.off) := YS.look mem2 (pc_frag VBK.out.m 2 _ rfl)
  have z3 : u5.cell? ⟨w.heap.size, 37, none⟩ = some (.bool k.frag.more) := YS.look mem2 (pc_frag VBK.out.m 3 _ rfl)
  have HA := veil (HB.out.p.slc.keep YS.below)
  rw [VI.out] at z1
  have d0 : (k.frag.off == 0) = false := by simpa using VX.out
  have hbk := veil (show k = kb by rw [HK.out]; unfold backK; rw [if_neg (by intro h; exact VX.out h.2.1)])
  have VY5 := veil YS
  have VS6 := veil hR7
  clear Y3 Y4 Y5 Y6 YS hR6 hR7 q4 q6 hu VR6 VY2 K3
  have SP := veil (same_of (k1 := k) (k2 := kb) (hbk.out) A A6 n6 c n6 zs u5 VBE.out hzl (by have := HB.out.n; unfold maxLen; omega) (slc_rd (HA.out)).1 (slc_rd (VS6.out)).1)
  have L3 : Hid (∀ v, v = Value.agg #[.int .u8 0, .int .u32 0] → (Instr.loadAt 45 (.pointer (some ⟨w5.heap.size + 1, 0, none⟩))).run Try.prog u5 = .ok v u5) := veil (fun v hv => by
    subst hv
    exact VY5.out.load mem0 (part_all _) Try.underlying45 rfl (sizeFl 0 0))
  have L4 := veil (pktAt VY5.out mem2 VBK.out.m).all
  have L5 := veil (pktAt VY5.out mem1 VBE.out).all
  have VYF := veil VY5.out
  go_wp2_with (first
    | (refine wpList_store_of rfl _ _ rfl rfl rfl T1.out ?_)
    | (refine wpList_store_of rfl _ _ rfl rfl rfl T2.out ?_)
    | (refine wpList_build_of rfl 45 #[] rfl #[] (by simp) (flt_made _) ?_)
    | (refine wpList_load_of rfl (.tmp 13) rfl rfl (L3.out _ rfl) ?_)
    | (refine wpList_load_of rfl (.tmp 3) rfl rfl L4.out ?_)
    | (refine wpList_load_of rfl (.tmp 12) rfl rfl L5.out ?_))
  refine (SP.out).mono ?_
  rintro e w7 ⟨rfl, q7⟩
  have Q7 := veil (VYF.out.below.trans (q7.mono VYF.out.below.size))
  clear SP q7 VYF L3 L4 L5
  clear z1 HK VBE VBK HB VI
  try clear VS6 HA
  try clear d0
  try clear z2 z3
  try clear hbk
  try clear hzl
  go_wp2_with fail
  refine (lives_true _).mono ?_
  rintro e w8 ⟨rfl, q8⟩
  go_wp2_with fail
  go_ret
  exact ⟨rfl, Q7.out.trans (q8.mono Q7.out.size)⟩

set_option linter.unusedSimpArgs false in
set_option maxHeartbeats 16000000 in
theorem walk_more (k : Pk) (A : Option Addr) (n c : Nat) (zs : List Int) (B : Option Addr) (m d : Nat) (ys : List Int) (q : Int) (w : World) (H : Fits w k A n c zs B m d ys q) (hi : k.frag.is = true) (ho : k.frag.off ≤ 8191) (hx : k.frag.off = 0) (hy : k.frag.more = true) :
    Calls Try.prog 6 #[pv k (.slice A n c), .slice B m d, .int .u16 q] w fun e w' => e = .returned (.bool true) ∧ Below w.heap.size w w' := by
  have hF := H.p
  have Y0 := (Lay.begin w).new (pc k (.slice A n c)) 30 (g := w.heap.size) rfl
  have P0 := pktAt Y0 mem0 hF.m
  have y0 := P0.body
  have y1 := P0.next
  have y2 : (w.alloc (.cells (pc k (.slice A n c)).toArray 30)).cell? ⟨w.heap.size, 34, none⟩ = some (.bool true) := by
    have := Y0.look mem0 (pc_frag hF.m 0 _ rfl)
    rw [show k.frag.is = true from hi] at this
    exact this
  have HB := veil H
  have KN := veil (number_no k.next (w.alloc (.cells (pc k (.slice A n c)).toArray 30)) H.next)
  have i1 : ¬ (2000 : Int) < (n : Int) := by have := H.n; omega
  have i2 : ¬ (1000 : Int) < (m : Int) := by have := H.m; omega
  have VY := veil Y0
  have VI := veil hi
  have VO := veil ho
  have VX := veil hx
  have VM := veil hy
  have L0 := veil P0.all
  clear hF Y0 P0 H hi ho hx hy
  go_enter Try.func6, Try.ntmps6
  go_wp2_with fail
  refine (KN.out).mono ?_
  rintro e w9 ⟨rfl, rfl⟩
  clear KN
  have VBK : Hid (Backs k n) := veil (⟨HB.out.p.m, HB.out.p.v, HB.out.next, fun h => (by rw [VI.out] at h; cases h), ⟨by unfold sizeP; have := HB.out.n; split <;> split <;> omega, fun _ => VO.out⟩⟩)
  have hzl : zs.length = n := HB.out.p.len
  have VBZ : Hid (Backs k zs.length) := veil (by rw [hzl]; exact VBK.out)
  have VBE : Hid (Hd.Ends (backK k)) := veil (back_ends VBK.out.m)
  have K1 := veil (codePut_ok k A n c zs (w.alloc (.cells (pc k (.slice A n c)).toArray 30)) VBK.out.m VBK.out.v (HB.out.p.slc.keep VY.out.below) VBK.out.ok)
  have hbl := back_len VBK.out zs
  have hbu : (pb k zs).length ≤ 70000 := by
    have h1 := VBK.out.ok.1
    have h2 := size_len k zs
    have h3 := pb_len k VBK.out.m zs
    rw [hzl] at h2
    omega
  have VLB := veil (And.intro hbl hbu)
  clear hbl hbu
  go_wp2_with (refine wpList_load_of rfl (.tmp 3) rfl rfl L0.out ?_)
  refine (K1.out).mono ?_
  rintro e w1 ⟨gb, nb, hgb, hnb, rfl, rb, q1⟩
  have Y1 := VY.out.got q1 rb hgb
  have hnb1 : 40 + (n : Int) ≤ (nb : Int) := by have := VLB.out.1; omega
  have hnb2 : (nb : Int) ≤ 70000 := by have := VLB.out.2; omega
  have i3 : ¬ (nb : Int) < 40 + (n : Int) := by omega
  have i4 : ¬ (nb : Int) = 0 := by omega
  have i5 := HB.out.q.1
  have i6 := HB.out.q.2
  have z0 := Y1.look mem1 (pc_body VBK.out.m)
  obtain ⟨mm, hm1, hm2, hm3⟩ := rem_cut HB.out.q (n := nb) (by omega)
  have hms := veil hm3
  have E78 := fun u => slice_hi (A := some ⟨gb, 0, none⟩) (n := nb) (c := nb) (k := mm) (by omega) u
  have S1 : Slc w1 (.slice (some ⟨gb, 0, none⟩) mm nb) ((pb k zs).take mm) := slc_part (Y1.at mem0) (by
    intro j u hj
    rw [Nat.zero_add]
    have : bv ((pb k zs).take mm) = (bv (pb k zs)).take mm := by simp [bv]
    rw [this, List.getElem?_take] at hj
    split at hj
    · exact hj
    · cases hj) (by rw [List.length_take]; omega) (by omega)
  have VPB := veil (pb_byt VBZ.out HB.out.p.bs HB.out.p.bd HB.out.p.byt)
  have K2 := codeGet (some ⟨gb, 0, none⟩) mm nb ((pb k zs).take mm) w1 S1 (VPB.out.take mm) (by rw [List.length_take]; omega) (by omega)
  rw [get_cut VBZ.out (by omega)] at K2
  unfold GotB at K2
  replace K2 := veil K2
  have hnbv := veil hnb
  have VY1 := veil Y1
  clear K1 VY rb q1 hgb Y1 S1 hm3 hnb L0
  go_wp2_with (first
    | (refine wpList_slhi_of rfl _ (.tmp 72) (.tmp 77) rfl rfl (by simp only [hm1, hm2]; rfl) (E78 _) ?_))
  refine (K2.out).mono ?_
  rintro e w2 ⟨A2, n2, rfl, hR, q2⟩
  have Y2 := VY1.out.keep q2
  obtain ⟨ZF, hZF⟩ : ∃ Z : Array Value, Z = zp := ⟨_, rfl⟩
  obtain ⟨ZX, hZX⟩ : ∃ Z : Array Value, Z = #[.int .u8 0, .int .u32 0] := ⟨_, rfl⟩
  have hzf : Hid (ZF.toList.length = 40) := by rw [hZF]; exact rfl
  have hzx : Hid (ZX.toList.length = 2) := by rw [hZX]; exact rfl
  have Y3 := (Y2.newA ZF 30 (g := w2.heap.size) rfl).newA ZX 45 (g := w2.heap.size + 1) (by simp)
  have T1 := veil (pkt_store (k := noPk) (v := .slice A2 n2 n2) Y3 mem1 hzf.out noPk_ends rfl)
  have Y4 := Y3.put 1 rfl (pc noPk (.slice A2 n2 n2))
  simp only [List.set_cons_zero, List.set_cons_succ] at Y4
  have T2 := veil (store_all (P := Try.prog) (ty := 45) (vs := flc 0 0) (Y4.at mem0) (by rw [hzx.out]; rfl) (sizeFl _ _) (one_fl _ _))
  have Y5 := Y4.put 0 rfl (flc 0 0)
  simp only [List.set_cons_zero, List.set_cons_succ] at Y5
  have q4 := below_setRow (below_setRow ((below_new w2 (.cells ZF 30)).trans ((below_new _ (.cells ZX 45)).mono (by simp))) w2.heap.size (pc noPk (.slice A2 n2 n2)).toArray (Nat.le_refl _)) (w2.heap.size + 1) (flc 0 0).toArray (by omega)
  obtain ⟨u2, hu⟩ : ∃ u, (((w2.alloc (.cells ZF 30)).alloc (.cells ZX 45)).setRow w2.heap.size (pc noPk (.slice A2 n2 n2)).toArray).setRow (w2.heap.size + 1) (flc 0 0).toArray = u := ⟨_, rfl⟩
  rw [hu] at T2 Y5 q4
  generalize ZF.toList = ZFL at *
  generalize ZX.toList = ZXL at *
  unfold zp at hZF
  subst hZF hZX
  have YS := Y5.sub (L' := [(gb, 5, bv (pb k zs)), (w.heap.size, 30, pc k (.slice A n c))]) (List.Sublist.cons _ (List.Sublist.cons _ (List.Sublist.cons_cons _ (List.Sublist.cons_cons _ (List.nil_sublist _)))))
  have S2 : Slc u2 (.slice (some ⟨gb, 0, none⟩) nb nb) (pb k zs) := slc_part (YS.at mem0) (part_all _) hnbv.out.symm (Nat.le_refl _)
  obtain ⟨v3, w3, ha3, G3⟩ := (Grow.begin YS).append S2 (by have := VLB.out.2; simp; omega) 28
  rw [List.nil_append] at G3
  have hym := (slc_of HB.out.b).1
  obtain ⟨v4, w4, ha4, G4⟩ := G3.append (HB.out.b.keep G3.lay.below) (by have := VLB.out.2; have := HB.out.m; omega) 28
  obtain ⟨A5, c5, e5, _, _⟩ := G4.own.slc.slice
  subst e5
  have hl5 : (pb k zs ++ ys).length ≤ 16000000 := by rw [List.length_append]; have := VLB.out.2; have := HB.out.m; omega
  have K3 := codeGet A5 (pb k zs ++ ys).length c5 (pb k zs ++ ys) w4 G4.own.slc (fun z hz => (List.mem_append.1 hz).elim (VPB.out z) (HB.out.y z)) rfl hl5
  rw [get_whole VBZ.out] at K3
  obtain ⟨kb, hkb0⟩ : ∃ x, x = backK k := ⟨_, rfl⟩
  rw [← hkb0] at K3
  have VBE : Hid (Hd.Ends kb) := veil (by rw [hkb0]; exact VBE.out)
  have HK := veil hkb0
  clear hkb0
  unfold GotB at K3
  replace K3 := veil K3
  have H3 := veil ha3
  have H4 := veil ha4
  have VY2 := veil G4.lay
  clear ha3 ha4 G3 G4 S2 YS Y2 Y3 Y4 Y5 q4 hu q2 hR K2 VY1 E78 hl5 hym hnbv hm1 hm2 hnb1 hnb2 i1 i2 i3 i4 i5 i6 z0 VPB VLB VBZ
  try clear y0
  try clear y1
  try clear y2
  generalize (pb k zs ++ ys).length = n5 at *
  go_wp2_with (first
    | (refine wpList_store_of rfl _ _ rfl rfl rfl T1.out ?_)
    | (refine wpList_store_of rfl _ _ rfl rfl rfl T2.out ?_)
    | (at_builtin; refine wpList_append_run rfl (.const (.slice none 0 0)) (.tmp 84) rfl rfl rfl H3.out ?_)
    | (at_builtin; refine wpList_append_run rfl (.tmp 85) (.tmp 86) rfl rfl rfl H4.out ?_))
  clear T1 T2 hzf hzx H3 H4
  refine (K3.out).mono ?_
  rintro e w5 ⟨A6, n6, rfl, hR6, q6⟩
  obtain rfl : n6 = n := (rest_len hR6).trans hzl
  have VR6 := veil hR6
  have Y6 := VY2.out.keep q6
  obtain ⟨ZF, hZF⟩ : ∃ Z : Array Value, Z = zp := ⟨_, rfl⟩
  obtain ⟨ZX, hZX⟩ : ∃ Z : Array Value, Z = #[.int .u8 0, .int .u32 0] := ⟨_, rfl⟩
  have hzf : Hid (ZF.toList.length = 40) := by rw [hZF]; exact rfl
  have hzx : Hid (ZX.toList.length = 2) := by rw [hZX]; exact rfl
  have Y3 := (Y6.newA ZF 30 (g := w5.heap.size) rfl).newA ZX 45 (g := w5.heap.size + 1) (by simp)
  have T1 := veil (pkt_store (k := kb) (v := .slice A6 n6 n6) Y3 mem1 hzf.out VBE.out rfl)
  have Y4 := Y3.put 1 rfl (pc kb (.slice A6 n6 n6))
  simp only [List.set_cons_zero, List.set_cons_succ] at Y4
  have T2 := veil (store_all (P := Try.prog) (ty := 45) (vs := flc 0 0) (Y4.at mem0) (by rw [hzx.out]; rfl) (sizeFl _ _) (one_fl _ _))
  have Y5 := Y4.put 0 rfl (flc 0 0)
  simp only [List.set_cons_zero, List.set_cons_succ] at Y5
  have q4 := below_setRow (below_setRow ((below_new w5 (.cells ZF 30)).trans ((below_new _ (.cells ZX 45)).mono (by simp))) w5.heap.size (pc kb (.slice A6 n6 n6)).toArray (Nat.le_refl _)) (w5.heap.size + 1) (flc 0 0).toArray (by omega)
  obtain ⟨u5, hu⟩ : ∃ u, (((w5.alloc (.cells ZF 30)).alloc (.cells ZX 45)).setRow w5.heap.size (pc kb (.slice A6 n6 n6)).toArray).setRow (w5.heap.size + 1) (flc 0 0).toArray = u := ⟨_, rfl⟩
  rw [hu] at T2 Y5 q4
  generalize ZF.toList = ZFL at *
  generalize ZX.toList = ZXL at *
  unfold zp at hZF
  subst hZF hZX
  have VR7 : Hid (RestOf w4 u5 zs A6 n6) := veil (by
    rcases VR6.out with h | ⟨b, o, xs, h1, h2, h3, h4⟩
    · exact .inl h
    · exact .inr ⟨b, o, xs, h1, h2, h3.keep q4, h4⟩)
  have hwl := veil (VY2.out.lt mem1)
  have hR7 : Slc u5 (.slice A6 n6 n6) zs := (rest_slc VR6.out).keep q4
  have YS := Y5.sub (L' := [(w5.heap.size + 1, 45, flc 0 0), (w5.heap.size, 30, pc kb (.slice A6 n6 n6)), (w.heap.size, 30, pc k (.slice A n6 c))]) (List.Sublist.cons_cons _ (List.Sublist.cons_cons _ (List.Sublist.cons _ (List.Sublist.cons_cons _ (List.nil_sublist _)))))
  have z1 : u5.cell? ⟨w.heap.size, 34, none⟩ = some (.bool k.frag.is) := YS.look mem2 (pc_frag VBK.out.m 0 _ rfl)
  have z2 : u5.cell? ⟨w.heap.size, 36, none⟩ = some (.int .u16 k.frag.off) := YS.look mem2 (pc_frag VBK.out.m 2 _ rfl)
  have z3 : u5.cell? ⟨w.heap.size, 37, none⟩ = some (.bool k.frag.more) := YS.look mem2 (pc_frag VBK.out.m 3 _ rfl)
  have HA := veil (HB.out.p.slc.keep YS.below)
  rw [VI.out] at z1
  rw [VX.out] at z2
  rw [VM.out] at z3
  have hbk := veil (show k = kb by rw [HK.out]; unfold backK; rw [if_neg (by rw [VM.out]; simp)])
  have VY5 := veil YS
  have VS6 := veil hR7
  clear Y3 Y4 Y5 Y6 YS hR6 hR7 q4 q6 hu VR6 VY2 K3
  have SP := veil (same_of (k1 := k) (k2 := kb) (hbk.out) A A6 n6 c n6 zs u5 VBE.out hzl (by have := HB.out.n; unfold maxLen; omega) (slc_rd (HA.out)).1 (slc_rd (VS6.out)).1)
  have L3 : Hid (∀ v, v = Value.agg #[.int .u8 0, .int .u32 0] → (Instr.loadAt 45 (.pointer (some ⟨w5.heap.size + 1, 0, none⟩))).run Try.prog u5 = .ok v u5) := veil (fun v hv => by
    subst hv
    exact VY5.out.load mem0 (part_all _) Try.underlying45 rfl (sizeFl 0 0))
  have L4 := veil (pktAt VY5.out mem2 VBK.out.m).all
  have L5 := veil (pktAt VY5.out mem1 VBE.out).all
  have VYF := veil VY5.out
  go_wp2_with (first
    | (refine wpList_store_of rfl _ _ rfl rfl rfl T1.out ?_)
    | (refine wpList_store_of rfl _ _ rfl rfl rfl T2.out ?_)
    | (refine wpList_build_of rfl 45 #[] rfl #[] (by simp) (flt_made _) ?_)
    | (refine wpList_load_of rfl (.tmp 13) rfl rfl (L3.out _ rfl) ?_)
    | (refine wpList_load_of rfl (.tmp 3) rfl rfl L4.out ?_)
    | (refine wpList_load_of rfl (.tmp 12) rfl rfl L5.out ?_))
  refine (SP.out).mono ?_
  rintro e w7 ⟨rfl, q7⟩
  have Q7 := veil (VYF.out.below.trans (q7.mono VYF.out.below.size))
  clear SP q7 VYF L3 L4 L5
  clear z1 HK VBE VBK HB VI
  try clear VS6 HA
  try clear d0
  try clear z2 z3
  try clear hbk
  try clear hzl
  go_wp2_with fail
  refine (lives_true _).mono ?_
  rintro e w8 ⟨rfl, q8⟩
  go_wp2_with fail
  go_ret
  exact ⟨rfl, Q7.out.trans (q8.mono Q7.out.size)⟩

set_option linter.unusedSimpArgs false in
set_option maxHeartbeats 16000000 in
theorem walk_all (k : Pk) (A : Option Addr) (n c : Nat) (zs : List Int) (B : Option Addr) (m d : Nat) (ys : List Int) (q : Int) (w : World) (H : Fits w k A n c zs B m d ys q) (hi : k.frag.is = true) (ho : k.frag.off ≤ 8191) (hx : k.frag.off = 0) (hy : k.frag.more = false) :
    Calls Try.prog 6 #[pv k (.slice A n c), .slice B m d, .int .u16 q] w fun e w' => e = .returned (.bool true) ∧ Below w.heap.size w w' := by
  have hF := H.p
  have Y0 := (Lay.begin w).new (pc k (.slice A n c)) 30 (g := w.heap.size) rfl
  have P0 := pktAt Y0 mem0 hF.m
  have y0 := P0.body
  have y1 := P0.next
  have y2 : (w.alloc (.cells (pc k (.slice A n c)).toArray 30)).cell? ⟨w.heap.size, 34, none⟩ = some (.bool true) := by
    have := Y0.look mem0 (pc_frag hF.m 0 _ rfl)
    rw [show k.frag.is = true from hi] at this
    exact this
  have HB := veil H
  have KN := veil (number_no k.next (w.alloc (.cells (pc k (.slice A n c)).toArray 30)) H.next)
  have i1 : ¬ (2000 : Int) < (n : Int) := by have := H.n; omega
  have i2 : ¬ (1000 : Int) < (m : Int) := by have := H.m; omega
  have VY := veil Y0
  have VI := veil hi
  have VO := veil ho
  have VX := veil hx
  have VM := veil hy
  have L0 := veil P0.all
  clear hF Y0 P0 H hi ho hx hy
  go_enter Try.func6, Try.ntmps6
  go_wp2_with fail
  refine (KN.out).mono ?_
  rintro e w9 ⟨rfl, rfl⟩
  clear KN
  have VBK : Hid (Backs k n) := veil (⟨HB.out.p.m, HB.out.p.v, HB.out.next, fun h => (by rw [VI.out] at h; cases h), ⟨by unfold sizeP; have := HB.out.n; split <;> split <;> omega, fun _ => VO.out⟩⟩)
  have hzl : zs.length = n := HB.out.p.len
  have VBZ : Hid (Backs k zs.length) := veil (by rw [hzl]; exact VBK.out)
  have VBE : Hid (Hd.Ends (backK k)) := veil (back_ends VBK.out.m)
  have K1 := veil (codePut_ok k A n c zs (w.alloc (.cells (pc k (.slice A n c)).toArray 30)) VBK.out.m VBK.out.v (HB.out.p.slc.keep VY.out.below) VBK.out.ok)
  have hbl := back_len VBK.out zs
  have hbu : (pb k zs).length ≤ 70000 := by
    have h1 := VBK.out.ok.1
    have h2 := size_len k zs
    have h3 := pb_len k VBK.out.m zs
    rw [hzl] at h2
    omega
  have VLB := veil (And.intro hbl hbu)
  clear hbl hbu
  go_wp2_with (refine wpList_load_of rfl (.tmp 3) rfl rfl L0.out ?_)
  refine (K1.out).mono ?_
  rintro e w1 ⟨gb, nb, hgb, hnb, rfl, rb, q1⟩
  have Y1 := VY.out.got q1 rb hgb
  have hnb1 : 40 + (n : Int) ≤ (nb : Int) := by have := VLB.out.1; omega
  have hnb2 : (nb : Int) ≤ 70000 := by have := VLB.out.2; omega
  have i3 : ¬ (nb : Int) < 40 + (n : Int) := by omega
  have i4 : ¬ (nb : Int) = 0 := by omega
  have i5 := HB.out.q.1
  have i6 := HB.out.q.2
  have z0 := Y1.look mem1 (pc_body VBK.out.m)
  obtain ⟨mm, hm1, hm2, hm3⟩ := rem_cut HB.out.q (n := nb) (by omega)
  have hms := veil hm3
  have E78 := fun u => slice_hi (A := some ⟨gb, 0, none⟩) (n := nb) (c := nb) (k := mm) (by omega) u
  have S1 : Slc w1 (.slice (some ⟨gb, 0, none⟩) mm nb) ((pb k zs).take mm) := slc_part (Y1.at mem0) (by
    intro j u hj
    rw [Nat.zero_add]
    have : bv ((pb k zs).take mm) = (bv (pb k zs)).take mm := by simp [bv]
    rw [this, List.getElem?_take] at hj
    split at hj
    · exact hj
    · cases hj) (by rw [List.length_take]; omega) (by omega)
  have VPB := veil (pb_byt VBZ.out HB.out.p.bs HB.out.p.bd HB.out.p.byt)
  have K2 := codeGet (some ⟨gb, 0, none⟩) mm nb ((pb k zs).take mm) w1 S1 (VPB.out.take mm) (by rw [List.length_take]; omega) (by omega)
  rw [get_cut VBZ.out (by omega)] at K2
  unfold GotB at K2
  replace K2 := veil K2
  have hnbv := veil hnb
  have VY1 := veil Y1
  clear K1 VY rb q1 hgb Y1 S1 hm3 hnb L0
  go_wp2_with (first
    | (refine wpList_slhi_of rfl _ (.tmp 72) (.tmp 77) rfl rfl (by simp only [hm1, hm2]; rfl) (E78 _) ?_))
  refine (K2.out).mono ?_
  rintro e w2 ⟨A2, n2, rfl, hR, q2⟩
  have Y2 := VY1.out.keep q2
  obtain ⟨ZF, hZF⟩ : ∃ Z : Array Value, Z = zp := ⟨_, rfl⟩
  obtain ⟨ZX, hZX⟩ : ∃ Z : Array Value, Z = #[.int .u8 0, .int .u32 0] := ⟨_, rfl⟩
  have hzf : Hid (ZF.toList.length = 40) := by rw [hZF]; exact rfl
  have hzx : Hid (ZX.toList.length = 2) := by rw [hZX]; exact rfl
  have Y3 := (Y2.newA ZF 30 (g := w2.heap.size) rfl).newA ZX 45 (g := w2.heap.size + 1) (by simp)
  have T1 := veil (pkt_store (k := noPk) (v := .slice A2 n2 n2) Y3 mem1 hzf.out noPk_ends rfl)
  have Y4 := Y3.put 1 rfl (pc noPk (.slice A2 n2 n2))
  simp only [List.set_cons_zero, List.set_cons_succ] at Y4
  have T2 := veil (store_all (P := Try.prog) (ty := 45) (vs := flc 0 0) (Y4.at mem0) (by rw [hzx.out]; rfl) (sizeFl _ _) (one_fl _ _))
  have Y5 := Y4.put 0 rfl (flc 0 0)
  simp only [List.set_cons_zero, List.set_cons_succ] at Y5
  have q4 := below_setRow (below_setRow ((below_new w2 (.cells ZF 30)).trans ((below_new _ (.cells ZX 45)).mono (by simp))) w2.heap.size (pc noPk (.slice A2 n2 n2)).toArray (Nat.le_refl _)) (w2.heap.size + 1) (flc 0 0).toArray (by omega)
  obtain ⟨u2, hu⟩ : ∃ u, (((w2.alloc (.cells ZF 30)).alloc (.cells ZX 45)).setRow w2.heap.size (pc noPk (.slice A2 n2 n2)).toArray).setRow (w2.heap.size + 1) (flc 0 0).toArray = u := ⟨_, rfl⟩
  rw [hu] at T2 Y5 q4
  generalize ZF.toList = ZFL at *
  generalize ZX.toList = ZXL at *
  unfold zp at hZF
  subst hZF hZX
  have YS := Y5.sub (L' := [(gb, 5, bv (pb k zs)), (w.heap.size, 30, pc k (.slice A n c))]) (List.Sublist.cons _ (List.Sublist.cons _ (List.Sublist.cons_cons _ (List.Sublist.cons_cons _ (List.nil_sublist _)))))
  have S2 : Slc u2 (.slice (some ⟨gb, 0, none⟩) nb nb) (pb k zs) := slc_part (YS.at mem0) (part_all _) hnbv.out.symm (Nat.le_refl _)
  obtain ⟨v3, w3, ha3, G3⟩ := (Grow.begin YS).append S2 (by have := VLB.out.2; simp; omega) 28
  rw [List.nil_append] at G3
  have hym := (slc_of HB.out.b).1
  obtain ⟨v4, w4, ha4, G4⟩ := G3.append (HB.out.b.keep G3.lay.below) (by have := VLB.out.2; have := HB.out.m; omega) 28
  obtain ⟨A5, c5, e5, _, _⟩ := G4.own.slc.slice
  subst e5
  have hl5 : (pb k zs ++ ys).length ≤ 16000000 := by rw [List.length_append]; have := VLB.out.2; have := HB.out.m; omega
  have K3 := codeGet A5 (pb k zs ++ ys).length c5 (pb k zs ++ ys) w4 G4.own.slc (fun z hz => (List.mem_append.1 hz).elim (VPB.out z) (HB.out.y z)) rfl hl5
  rw [get_whole VBZ.out] at K3
  obtain ⟨kb, hkb0⟩ : ∃ x, x = backK k := ⟨_, rfl⟩
  rw [← hkb0] at K3
  have VBE : Hid (Hd.Ends kb) := veil (by rw [hkb0]; exact VBE.out)
  have HK := veil hkb0
  clear hkb0
  unfold GotB at K3
  replace K3 := veil K3
  have H3 := veil ha3
  have H4 := veil ha4
  have VY2 := veil G4.lay
  clear ha3 ha4 G3 G4 S2 YS Y2 Y3 Y4 Y5 q4 hu q2 hR K2 VY1 E78 hl5 hym hnbv hm1 hm2 hnb1 hnb2 i1 i2 i3 i4 i5 i6 z0 VPB VLB VBZ
  try clear y0
  try clear y1
  try clear y2
  generalize (pb k zs ++ ys).length = n5 at *
  go_wp2_with (first
    | (refine wpList_store_of rfl _ _ rfl rfl rfl T1.out ?_)
    | (refine wpList_store_of rfl _ _ rfl rfl rfl T2.out ?_)
    | (at_builtin; refine wpList_append_run rfl (.const (.slice none 0 0)) (.tmp 84) rfl rfl rfl H3.out ?_)
    | (at_builtin; refine wpList_append_run rfl (.tmp 85) (.tmp 86) rfl rfl rfl H4.out ?_))
  clear T1 T2 hzf hzx H3 H4
  refine (K3.out).mono ?_
  rintro e w5 ⟨A6, n6, rfl, hR6, q6⟩
  obtain rfl : n6 = n := (rest_len hR6).trans hzl
  have VR6 := veil hR6
  have Y6 := VY2.out.keep q6
  obtain ⟨ZF, hZF⟩ : ∃ Z : Array Value, Z = zp := ⟨_, rfl⟩
  obtain ⟨ZX, hZX⟩ : ∃ Z : Array Value, Z = #[.int .u8 0, .int .u32 0] := ⟨_, rfl⟩
  have hzf : Hid (ZF.toList.length = 40) := by rw [hZF]; exact rfl
  have hzx : Hid (ZX.toList.length = 2) := by rw [hZX]; exact rfl
  have Y3 := (Y6.newA ZF 30 (g := w5.heap.size) rfl).newA ZX 45 (g := w5.heap.size + 1) (by simp)
  have T1 := veil (pkt_store (k := kb) (v := .slice A6 n6 n6) Y3 mem1 hzf.out VBE.out rfl)
  have Y4 := Y3.put 1 rfl (pc kb (.slice A6 n6 n6))
  simp only [List.set_cons_zero, List.set_cons_succ] at Y4
  have T2 := veil (store_all (P := Try.prog) (ty := 45) (vs := flc 0 0) (Y4.at mem0) (by rw [hzx.out]; rfl) (sizeFl _ _) (one_fl _ _))
  have Y5 := Y4.put 0 rfl (flc 0 0)
  simp only [List.set_cons_zero, List.set_cons_succ] at Y5
  have q4 := below_setRow (below_setRow ((below_new w5 (.cells ZF 30)).trans ((below_new _ (.cells ZX 45)).mono (by simp))) w5.heap.size (pc kb (.slice A6 n6 n6)).toArray (Nat.le_refl _)) (w5.heap.size + 1) (flc 0 0).toArray (by omega)
  obtain ⟨u5, hu⟩ : ∃ u, (((w5.alloc (.cells ZF 30)).alloc (.cells ZX 45)).setRow w5.heap.size (pc kb (.slice A6 n6 n6)).toArray).setRow (w5.heap.size + 1) (flc 0 0).toArray = u := ⟨_, rfl⟩
  rw [hu] at T2 Y5 q4
  generalize ZF.toList = ZFL at *
  generalize ZX.toList = ZXL at *
  unfold zp at hZF
  subst hZF hZX
  have VR7 : Hid (RestOf w4 u5 zs A6 n6) := veil (by
    rcases VR6.out with h | ⟨b, o, xs, h1, h2, h3, h4⟩
    · exact .inl h
    · exact .inr ⟨b, o, xs, h1, h2, h3.keep q4, h4⟩)
  have hwl := veil (VY2.out.lt mem1)
  have hR7 : Slc u5 (.slice A6 n6 n6) zs := (rest_slc VR6.out).keep q4
  have YS := Y5.sub (L' := [(w5.heap.size + 1, 45, flc 0 0), (w5.heap.size, 30, pc kb (.slice A6 n6 n6)), (w.heap.size, 30, pc k (.slice A n6 c))]) (List.Sublist.cons_cons _ (List.Sublist.cons_cons _ (List.Sublist.cons _ (List.Sublist.cons_cons _ (List.nil_sublist _)))))
  have z1 : u5.cell? ⟨w.heap.size, 34, none⟩ = some (.bool k.frag.is) := YS.look mem2 (pc_frag VBK.out.m 0 _ rfl)
  have z2 : u5.cell? ⟨w.heap.size, 36, none⟩ = some (.int .u16 k.frag.off) := YS.look mem2 (pc_frag VBK.out.m 2 _ rfl)
  have z3 : u5.cell? ⟨w.heap.size, 37, none⟩ = some (.bool k.frag.more) := YS.look mem2 (pc_frag VBK.out.m 3 _ rfl)
  have HA := veil (HB.out.p.slc.keep YS.below)
  rw [VI.out] at z1
  rw [VX.out] at z2
  rw [VM.out] at z3
  have hbk : Hid (kb = { k with frag := {} }) := veil (by rw [HK.out]; unfold backK; rw [if_pos ⟨VI.out, VX.out, VM.out⟩])
  have VY5 := veil YS
  have VS6 := veil hR7
  clear Y3 Y4 Y5 Y6 YS hR6 hR7 q4 q6 hu VR6 VY2 K3
  have TF := veil (store_part (P := Try.prog) (o := 34) (ty := 27) (vs := fgc {}) (VY5.out.at mem2) (by rw [pc_len VBK.out.m]; decide) sizeFg fgc_one')
  have Y9 := VY5.out.put 2 rfl (pc { k with frag := {} } (.slice A n6 c))
  simp only [List.set_cons_zero, List.set_cons_succ] at Y9
  rw [pc_put_frag VBK.out.m, ← hbk.out] at TF
  rw [← hbk.out] at Y9
  have q9 : ∀ B : Nat, B ≤ w.heap.size → Below B u5 (u5.setRow w.heap.size (pc kb (.slice A n6 c)).toArray) := fun B hB => below_setRow (Below.refl _ _) w.heap.size _ hB
  obtain ⟨u6, hu6⟩ : ∃ u, u5.setRow w.heap.size (pc kb (.slice A n6 c)).toArray = u := ⟨_, rfl⟩
  have hR8 : Slc u6 (.slice A6 n6 n6) zs := by
    rcases VR7.out with h | ⟨b, o, xs, h1, h2, h3, h4⟩
    · exact rest_slc (w := w4) (.inl h)
    · exact rest_slc (w := w4) (.inr ⟨b, o, xs, h1, h2, by rw [← hu6]; exact Hd.Row.setRowFar h3 (by have := hwl.out; omega) _, h4⟩)
  rw [hu6] at TF Y9
  have SP := veil (same_of (k1 := kb) (k2 := kb) (rfl) A A6 n6 c n6 zs u6 VBE.out hzl (by have := HB.out.n; unfold maxLen; omega) (slc_rd (HB.out.p.slc.keep Y9.below)).1 (slc_rd (hR8)).1)
  have L3 : Hid (∀ v, v = Value.agg #[.int .u8 0, .int .u32 0] → (Instr.loadAt 45 (.pointer (some ⟨w5.heap.size + 1, 0, none⟩))).run Try.prog u6 = .ok v u6) := veil (fun v hv => by
    subst hv
    exact Y9.load mem0 (part_all _) Try.underlying45 rfl (sizeFl 0 0))
  have L4 := veil (pktAt Y9 mem2 VBE.out).all
  have L5 := veil (pktAt Y9 mem1 VBE.out).all
  have VYF := veil Y9
  clear VY5 Y9 q9 hu6 hR8 VS6 HA
  go_wp2_with (first
    | (refine wpList_store_of rfl _ _ rfl rfl rfl T1.out ?_)
    | (refine wpList_store_of rfl _ _ rfl rfl rfl T2.out ?_)
    | (refine wpList_build_of rfl 27 #[] rfl #[] (by simp) (frag_made _) ?_)
    | (refine wpList_store_of rfl _ _ rfl rfl rfl TF.out ?_)
    | (refine wpList_build_of rfl 45 #[] rfl #[] (by simp) (flt_made _) ?_)
    | (refine wpList_load_of rfl (.tmp 13) rfl rfl (L3.out _ rfl) ?_)
    | (refine wpList_load_of rfl (.tmp 3) rfl rfl L4.out ?_)
    | (refine wpList_load_of rfl (.tmp 12) rfl rfl L5.out ?_))
  refine (SP.out).mono ?_
  rintro e w7 ⟨rfl, q7⟩
  have Q7 := veil (VYF.out.below.trans (q7.mono VYF.out.below.size))
  clear SP q7 VYF L3 L4 L5
  clear z1 HK VBE VBK HB VI
  try clear VS6 HA
  try clear d0
  try clear z2 z3
  try clear hbk
  try clear hzl
  go_wp2_with fail
  refine (lives_true _).mono ?_
  rintro e w8 ⟨rfl, q8⟩
  go_wp2_with fail
  go_ret
  exact ⟨rfl, Q7.out.trans (q8.mono Q7.out.size)⟩

set_option linter.unusedSimpArgs false in
set_option maxHeartbeats 16000000 in
theorem walk_long (k : Pk) (A : Option Addr) (n c : Nat) (zs : List Int) (B : Option Addr) (m d : Nat) (ys : List Int) (q : Int) (w : World) (H : Fits w k A n c zs B m d ys q) (hi : k.frag.is = true) (ho : ¬ k.frag.off ≤ 8191) :
    Calls Try.prog 6 #[pv k (.slice A n c), .slice B m d, .int .u16 q] w fun e w' => e = .returned (.bool true) ∧ Below w.heap.size w w' := by
  have hF := H.p
  have Y0 := (Lay.begin w).new (pc k (.slice A n c)) 30 (g := w.heap.size) rfl
  have P0 := pktAt Y0 mem0 hF.m
  have y0 := P0.body
  have y1 := P0.next
  have y2 : (w.alloc (.cells (pc k (.slice A n c)).toArray 30)).cell? ⟨w.heap.size, 34, none⟩ = some (.bool true) := by
    have := Y0.look mem0 (pc_frag hF.m 0 _ rfl)
    rw [show k.frag.is = true from hi] at this
    exact this
  have HB := veil H
  have KN := veil (number_no k.next (w.alloc (.cells (pc k (.slice A n c)).toArray 30)) H.next)
  have i1 : ¬ (2000 : Int) < (n : Int) := by have := H.n; omega
  have i2 : ¬ (1000 : Int) < (m : Int) := by have := H.m; omega
  have VY := veil Y0
  have VI := veil hi
  have z2 : (w.alloc (.cells (pc k (.slice A n c)).toArray 30)).cell? ⟨w.heap.size, 36, none⟩ = some (.int .u16 k.frag.off) := Y0.look mem0 (pc_frag hF.m 2 _ rfl)
  have L0 := veil P0.all
  have K1 := veil (codePut_long k A n c zs (w.alloc (.cells (pc k (.slice A n c)).toArray 30)) hF.m hF.v (hF.slc.keep Y0.below) (fun h => ho (h.2 hi)) (by have := H.n; omega))
  have o1 : (8191 : Int) < k.frag.off := by omega
  clear hF Y0 P0 H ho hi
  go_enter Try.func6, Try.ntmps6
  go_wp2_with fail
  refine (KN.out).mono ?_
  rintro e w9 ⟨rfl, rfl⟩
  clear KN
  go_wp2_with (refine wpList_load_of rfl (.tmp 3) rfl rfl L0.out ?_)
  refine (K1.out).mono ?_
  rintro e w1 ⟨rfl, q1⟩
  have Y1 := VY.out.keep q1
  have z1 : w1.cell? ⟨w.heap.size, 34, none⟩ = some (.bool true) := by
    have := Y1.look mem0 (pc_frag HB.out.p.m 0 _ rfl)
    rw [show k.frag.is = true from VI.out] at this
    exact this
  have z2 : w1.cell? ⟨w.heap.size, 36, none⟩ = some (.int .u16 k.frag.off) := Y1.look mem0 (pc_frag HB.out.p.m 2 _ rfl)
  have Q1 := veil Y1.below
  clear K1 q1 Y1 VY L0 y0 y1 y2
  go_wp2_with fail
  refine (lives_true _).mono ?_
  rintro e w8 ⟨rfl, q8⟩
  go_wp2_with fail
  go_ret
  exact ⟨rfl, Q1.out.trans (q8.mono Q1.out.size)⟩

set_option linter.unusedSimpArgs false in
set_option maxHeartbeats 4000000 in
theorem skip_body (k : Pk) (A : Option Addr) (n c : Nat) (B : Option Addr) (m d : Nat) (q : Int) (w : World) (M : Hd.Ends k) (h : 2000 < n) :
    Calls Try.prog 6 #[pv k (.slice A n c), .slice B m d, .int .u16 q] w fun e w' => e = .returned (.bool true) ∧ Below w.heap.size w w' := by
  have Y0 := (Lay.begin w).new (pc k (.slice A n c)) 30 (g := w.heap.size) rfl
  have P0 := pktAt Y0 mem0 M
  have y0 := P0.body
  have y1 := P0.next
  have Q := veil Y0.below
  have i1 : (2000 : Int) < (n : Int) := by omega
  clear Y0 P0 M
  go_enter Try.func6, Try.ntmps6
  go_wp2_with fail
  refine (lives_true _).mono ?_
  rintro e w1 ⟨rfl, q⟩
  go_wp2_with fail
  go_ret
  exact ⟨rfl, Q.out.trans (q.mono Q.out.size)⟩

set_option linter.unusedSimpArgs false in
set_option maxHeartbeats 4000000 in
theorem skip_behind (k : Pk) (A : Option Addr) (n c : Nat) (B : Option Addr) (m d : Nat) (q : Int) (w : World) (M : Hd.Ends k) (h1 : n ≤ 2000) (h : 1000 < m) :
    Calls Try.prog 6 #[pv k (.slice A n c), .slice B m d, .int .u16 q] w fun e w' => e = .returned (.bool true) ∧ Below w.heap.size w w' := by
  have Y0 := (Lay.begin w).new (pc k (.slice A n c)) 30 (g := w.heap.size) rfl
  have P0 := pktAt Y0 mem0 M
  have y0 := P0.body
  have y1 := P0.next
  have Q := veil Y0.below
  have i1 : ¬ (2000 : Int) < (n : Int) := by omega
  have i2 : (1000 : Int) < (m : Int) := by omega
  clear Y0 P0 M
  go_enter Try.func6, Try.ntmps6
  go_wp2_with fail
  refine (lives_true _).mono ?_
  rintro e w1 ⟨rfl, q⟩
  go_wp2_with fail
  go_ret
  exact ⟨rfl, Q.out.trans (q.mono Q.out.size)⟩

set_option linter.unusedSimpArgs false in
set_option maxHeartbeats 4000000 in
theorem skip_number (k : Pk) (A : Option Addr) (n c : Nat) (B : Option Addr) (m d : Nat) (q : Int) (w : World) (M : Hd.Ends k) (h1 : n ≤ 2000) (h2 : m ≤ 1000) (h : Numb k.next) :
    Calls Try.prog 6 #[pv k (.slice A n c), .slice B m d, .int .u16 q] w fun e w' => e = .returned (.bool true) ∧ Below w.heap.size w w' := by
  have Y0 := (Lay.begin w).new (pc k (.slice A n c)) 30 (g := w.heap.size) rfl
  have P0 := pktAt Y0 mem0 M
  have y0 := P0.body
  have y1 := P0.next
  have Q := veil Y0.below
  have i1 : ¬ (2000 : Int) < (n : Int) := by omega
  have i2 : ¬ (1000 : Int) < (m : Int) := by omega
  have KN := veil (number_yes k.next (w.alloc (.cells (pc k (.slice A n c)).toArray 30)) h)
  clear h
  clear Y0 P0 M
  go_enter Try.func6, Try.ntmps6
  go_wp2_with fail
  refine (KN.out).mono ?_
  rintro e w9 ⟨rfl, rfl⟩
  clear KN
  go_wp2_with fail
  refine (lives_true _).mono ?_
  rintro e w1 ⟨rfl, q⟩
  go_wp2_with fail
  go_ret
  exact ⟨rfl, Q.out.trans (q.mono Q.out.size)⟩

theorem own : ownKnob Try.prog.godebug = none := by kernel_rfl
theorem readable : ∀ t ∈ Try.f6.params.toList, Try.prog.readableRec t = true ∧ t < Try.prog.types.size := by
  rw [Try.params6]
  intro t ht
  simp at ht
  rcases ht with rfl | rfl | rfl
  · exact ⟨by kernel_rfl, of_decide_eq_true (by kernel_rfl)⟩
  · exact ⟨by kernel_rfl, of_decide_eq_true (by kernel_rfl)⟩
  · exact ⟨by kernel_rfl, of_decide_eq_true (by kernel_rfl)⟩

set_option maxRecDepth 100000 in
theorem lifted (os : Os) (started : os.Started) (H : Type) (enc : TypeId × Value → H) :
    ReturnsInHanded {} Try.checked os 6 .any (Rows.headersBackSpec.pre6 enc Try.prog Try.f6 Rows.headersBackRow.domain false) (Rows.headersBackSpec.post enc Try.prog Try.f6 false true false false) := by
  refine returnsInHanded_of_change_sized (C := Try.checked) own started (by kernel_rfl) Try.func6
    (ChangeSpec.witness6 (enc := enc) (C := Try.checked) false ⟨#[], #[.agg #[.int .u8 0, .int .u8 0, .int .u8 0, .int .u8 0, .int .u8 0, .int .u8 0, .int .u8 0, .int .u8 0, .int .u8 0, .int .u8 0, .int .u8 0, .int .u8 0, .int .u8 0, .int .u8 0, .int .u8 0, .int .u8 0, .int .u8 0, .int .u8 0, .int .u8 0, .int .u8 0, .int .u8 0, .int .u8 0, .int .u8 0, .int .u8 0, .int .u8 0, .int .u8 0, .int .u8 0, .int .u8 0, .int .u8 0, .int .u8 0, .int .u8 0, .int .u8 0, .int .u8 0, .bool false, .bool false, .int .u32 0, .int .u16 0, .bool false, .int .u8 0, .slice none 0 0], .slice none 0 0, .int .u16 0], []⟩ 8 (by kernel_rfl) (by kernel_rfl) (by kernel_rfl) (by kernel_rfl)) ?_
  intro W base args ds gs before hval0 hW _ hsz0 _
  have hval : ∀ (j : Nat) t v, Try.f6.params[j]? = some t → args[j]? = some v → Value.okWide Try.prog W .any base t v := hval0
  have hW' := hW
  obtain ⟨p, q, hA0, hV, rfl, _, _⟩ := hW
  have hA : DataW.TrodAll enc Try.prog W 0 (fun _ => true) true Try.f6.params.toList args.toList ds p := hA0
  rw [Try.params6] at hA hval
  obtain ⟨v0, vs0, d0, ds0, p0, q0, hargs, rfl, rfl, h0, r0⟩ := trodAll_cons hA
  obtain ⟨v1, vs1, d1, ds1, p1, q1, rfl, rfl, rfl, h1, r1⟩ := trodAll_cons r0
  obtain ⟨v2, vs2, d2, ds2, p2, q2, rfl, rfl, rfl, h2, r2⟩ := trodAll_cons r1
  obtain ⟨rfl, rfl, rfl⟩ := trodAll_nil r2
  obtain rfl : args = #[v0, v1, v2] := by cases args; simp_all
  obtain ⟨rfl, rfl⟩ := trodVars_none hV
  obtain ⟨k, A, n, c, zs, rfl, F⟩ := open_packet (hval 0 30 v0 rfl rfl) (opens_arg h0 (slim_of hsz0 (j := 0) rfl rfl))
  obtain ⟨B, m, d, ys, rfl, hb, hbl, hby⟩ := Hd.open_bytes (hval 1 28 v1 rfl rfl) (opens_arg h1 (slim_of hsz0 (j := 1) rfl rfl))
  obtain ⟨q, rfl, rfl, rfl, w1⟩ := open_int Try.underlying25 (hval 2 25 v2 rfl rfl) h2
  have hq := u16_of w1
  have hw : Calls Try.prog 6 #[pv k (.slice A n c), .slice B m d, .int .u16 q] W fun e w' => e = .returned (.bool true) ∧ Below W.heap.size W w' := by
    by_cases g1 : 2000 < n
    · exact skip_body k A n c B m d q W F.m g1
    by_cases g2 : 1000 < m
    · exact skip_behind k A n c B m d q W F.m (by omega) g2
    by_cases g3 : Numb k.next
    · exact skip_number k A n c B m d q W F.m (by omega) (by omega) g3
    have H : Fits W k A n c zs B m d ys q := ⟨F, hb, hby, by omega, by omega, by omega, g3⟩
    cases hi : k.frag.is
    · exact walk_no k A n c zs B m d ys q W H hi
    by_cases ho : k.frag.off ≤ 8191
    · by_cases hx : k.frag.off = 0
      · cases hy : k.frag.more
        · exact walk_all k A n c zs B m d ys q W H hi ho hx hy
        · exact walk_more k A n c zs B m d ys q W H hi ho hx hy
      · exact walk_off k A n c zs B m d ys q W H hi ho hx
    · exact walk_long k A n c zs B m d ys q W H hi ho
  refine hw.mono fun e W' ⟨he, hb⟩ => ?_
  subst he
  exact ⟨_, rfl, law_post (by kernel_rfl) rfl rfl Try.underlying4 readable hW' rfl hb⟩

/-- HeadersBack, as given -/
theorem holds : Rows.HeadersBackSaid :=
  OpenClaim.holds_of_wide 6 Try.f6 rfl rfl rfl rfl rfl rfl rfl ⟨rfl, rfl, rfl, rfl, rfl⟩ rfl rfl rfl rfl rfl (by kernel_rfl) Try.func6 (by kernel_rfl)
    (of_decide_eq_true (by kernel_rfl)) (by unfold Func.isWrapper; first | (rw [if_pos (by decide +kernel)]; kernel_rfl) | (rw [if_neg (by decide +kernel)]; exact ⟨rfl, rfl⟩))
    (fun os started H enc _ => lifted os started H enc)

#print axioms holds
end Go.Proofs.Ytfkjfdmepeahnaa.headersBack
