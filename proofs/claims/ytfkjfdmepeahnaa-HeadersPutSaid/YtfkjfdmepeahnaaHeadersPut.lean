/-
  HeadersPut: whatever packet it is, its bytes, or that it is too long, is the chapter's; it stays, and nothing is shared: the law returns true for every input, and its arguments read as before.
  Conditions: none.
-/
import Derived.Test.YtfkjfdmepeahnaaLwc
import Derived.Test.YtfkjfdmepeahnaaPktQ
namespace Go.Proofs.Ytfkjfdmepeahnaa.headersPut
set_option maxRecDepth 100000
open Go.ChangeShapes Go.WideShapes Go.ChangeAt Go.RowKit Go.Proofs.Ytfkjfdmepeahnaa.Hd Ops

set_option linter.unusedSimpArgs false in
set_option maxHeartbeats 16000000 in
theorem walk_ok (k : Pk) (A : Option Addr) (n c : Nat) (zs : List Int) (w : World) (H : FitsP w k A n c zs) (h3 : n ≤ 3000) (hok : OkP k n) :
    Calls Try.prog 3 #[pv k (.slice A n c)] w fun e w' => e = .returned (.bool true) ∧ Below w.heap.size w w' := by
  have Y0 := (Lay.begin w).new (pc k (.slice A n c)) 30 (g := w.heap.size) rfl
  have P0 := pktAt Y0 mem0 H.m
  have y0 := P0.body
  have L0 := veil P0.all
  have i3 : ¬ (3000 : Int) < (n : Int) := by omega
  have n16 : n ≤ 16000000 := by omega
  have HS := veil H.slc
  have HL := veil H.len
  have HM := veil H.m
  have HV := veil H.v
  have K := veil (twinPacket_any k A n c zs (w.alloc (.cells (pc k (.slice A n c)).toArray 30)) H.m H.len n16 (slc_rd (H.slc.keep Y0.below)).1)
  have VY0 := veil Y0
  have VOK := veil hok
  clear Y0 P0 H hok
  go_enter Try.func3, Try.ntmps3
  go_wp2_with (refine wpList_load_of rfl (.tmp 1) rfl rfl L0.out ?_)
  refine (K.out).mono ?_
  rintro e w1 ⟨g, hg, rfl, t1, q⟩
  have Y1 := VY0.out.got q t1 hg
  have hw : w.heap.size ≤ g := Nat.le_trans VY0.out.size hg
  obtain ⟨Z, hZ⟩ : ∃ Z, Z = zp := ⟨_, rfl⟩
  have hz : Hid (Z.toList.length = 40) := by rw [hZ]; exact rfl
  have Y2 := Y1.newA Z 30 (g := w1.heap.size) rfl
  have T1 := veil (pkt_store (k := k) (v := .slice (some ⟨g, 0, none⟩) n (n + 4)) Y2 mem0 hz.out HM.out rfl)
  have Y3 := Y2.put 0 rfl (pc k (.slice (some ⟨g, 0, none⟩) n (n + 4)))
  simp only [List.set_cons_zero] at Y3
  obtain ⟨u1, hu⟩ : ∃ u, (w1.alloc (.cells Z 30)).setRow w1.heap.size (pc k (.slice (some ⟨g, 0, none⟩) n (n + 4))).toArray = u := ⟨_, rfl⟩
  rw [hu] at T1 Y3
  have L1 := veil (pktAt Y3 mem0 HM.out).all
  have S1 : Slc u1 (.slice (some ⟨g, 0, none⟩) n (n + 4)) zs := .inr ⟨_, n + 4, by rw [HL.out], TwinAt.rd (Y3.at mem1), by rw [HL.out]; omega⟩
  have K1 := veil (codePut_ok k (some ⟨g, 0, none⟩) n (n + 4) zs u1 HM.out HV.out S1 VOK.out)
  have VY := veil Y3
  clear q t1 Y1 Y2 Y3 K VY0 hu S1 L0 y0 hg
  generalize Z.toList = ZL at *
  unfold zp at hZ
  subst hZ
  go_wp2_with (first
    | (refine wpList_store_of rfl _ _ rfl rfl rfl T1.out ?_)
    | (refine wpList_load_of rfl (.tmp 3) rfl rfl L1.out ?_))
  clear T1 hz L1
  generalize w1.heap.size = gt at *
  refine (K1.out).mono ?_
  rintro e w2 ⟨gp, np, hgp, hnp0, rfl, rp, q⟩
  have hnp := veil hnp0
  clear hnp0
  have Y4 := VY.out.got q rp hgp
  have hbg : g ≠ gp := by have := VY.out.lt mem1; omega
  have hwp : w.heap.size ≤ gp := Nat.le_trans VY.out.size hgp
  have L2 := veil (pktAt Y4 mem3 HM.out).all
  have K2 := veil (refPut_ok k A n c zs w2 HM.out HV.out (HS.out.keep Y4.below) VOK.out)
  have VY2 := veil Y4
  clear K1 VY q Y4 rp hgp
  go_wp2_with (refine wpList_load_of rfl (.tmp 1) rfl rfl L2.out ?_)
  refine (K2.out).mono ?_
  rintro e w3 ⟨v3, rfl, A3, m3, c3, he, hm3, own3, q3⟩
  obtain rfl : v3 = .slice A3 m3 c3 := by injection he
  obtain rfl : m3 = np := hm3.trans hnp.out.symm
  have Y5 := VY2.out.keep q3
  have hpl : (pb k zs).length ≤ 70000 := by
    have h1 := VOK.out.1
    have h2 : (pb k zs).length = n + 40 + (alertP k).length + (partP k).length := by simp [pb, headP, HM.out.s, HM.out.d, HL.out]; omega
    have h4 : (alertP k).length ≤ 8 := by unfold alertP; split <;> simp
    have h5 : (partP k).length ≤ 8 := by unfold partP; split <;> simp [be_length]
    omega
  have VPL := veil (show m3 ≤ 70000 by omega)
  have S := veil (sameBytes_eq (some ⟨gp, 0, none⟩) A3 m3 m3 c3 (pb k zs) w3 hm3.symm (by unfold maxLen; omega) (rd_whole (Y5.at mem0)) (slc_rd own3.slc).1)
  have VNP := veil hm3
  clear K2 L2 VY2 q3 own3 hpl hnp hm3 he
  have VY := veil Y5
  clear Y5
  go_wp2_with fail
  refine (S.out).mono ?_
  rintro e w4 ⟨rfl, st⟩
  have Y6 := VY.out.still st
  have L3 := veil (pktAt Y6 mem1 HM.out).all
  have L4 := veil (pktAt Y6 mem3 HM.out).all
  have KL := veil (leftPacket_true k g A n (n + 4) c zs w4 HM.out HL.out n16 (Y6.at mem2) (slc_rd (HS.out.keep Y6.below)).1 (Nat.le_refl _))
  have VY2 := veil Y6
  clear S st VY Y6
  go_wp2_with (first
    | (refine wpList_load_of rfl (.tmp 3) rfl rfl L3.out ?_)
    | (refine wpList_load_of rfl (.tmp 1) rfl rfl L4.out ?_))
  refine (KL.out).mono ?_
  rintro e w5 ⟨rfl, q5⟩
  have Y7 := VY2.out.keep q5
  have b0 : (w5.alloc (.cells #[.slice none 0 0] 40)).cell? ⟨gt, 39, none⟩ = some (.slice (some ⟨g, 0, none⟩) n (n + 4)) := (Y7.keep (below_new w5 _)).look mem1 (pc_body HM.out)
  have VY := veil Y7
  clear KL L3 L4 VY2 q5 Y7
  go_wp2_with fail
  have hB := book_new w5
  have Y1 := VY.out.keep (below_new w5 (.cells #[.slice none 0 0] 40))
  have s6 : w5.heap.size ≤ (w5.alloc (.cells #[.slice none 0 0] 40)).heap.size := by simp
  have s5 : w.heap.size ≤ w5.heap.size := VY.out.size
  generalize w5.alloc (.cells #[.slice none 0 0] 40) = w6 at *
  generalize w5.heap.size = kb at *
  clear VY
  refine (note_any w6 kb kb [] _ _ _ hB (by simp) s6).mono ?_
  rintro e w7 ⟨rfl, ⟨x7, y7, hB7⟩, hf7⟩
  have Y2 := Y1.bfB hf7 s5 (by rfl)
  have s7 : kb ≤ w7.heap.size := Nat.le_trans s6 hf7.1.size
  clear b0
  have VY := veil Y2
  have HB := veil hB7
  clear hB hB7 hf7 Y1 Y2 s6
  go_wp2_with fail
  refine (note_any w7 kb kb _ _ _ _ HB.out (by simp) s7).mono ?_
  rintro e w8 ⟨rfl, ⟨x8, y8, hB8⟩, hf8⟩
  have Y3 := VY.out.bfB hf8 s5 (by rfl)
  have hA : Hid (Calls Try.prog 16 #[.pointer (some ⟨kb, 0, none⟩)] w8 fun e w' => e = .returned (.bool true) ∧ Below w.heap.size w w') := by
    have hl' := HL.out
    refine apart_any w.heap.size w w8 kb kb _ hB8 (by simp) Y3.below Y3.below.size ?_ ?_ ?_
    · intro i L hi
      match i with
      | 0 => simp at hi; subst hi; exact ⟨by simp, by simp; omega, fun _ => ⟨_, _, _, rfl, Y3.at mem2, by simp [bv_length, hl']⟩⟩
      | 1 => simp at hi; subst hi; exact ⟨by simp, by simp; have := VPL.out; omega, fun _ => ⟨_, _, _, rfl, Y3.at mem0, by simp [bv_length]; exact Nat.le_of_eq VNP.out⟩⟩
      | i + 2 => simp at hi
    · intro i j L M hi hj hij b1 o1 o2 h3 h4
      exfalso
      match i, j with
      | 0, 0 => exact hij rfl
      | 1, 1 => exact hij rfl
      | 0, 1 => simp at hi hj; subst hi hj; simp at h3 h4; omega
      | 1, 0 => simp at hi hj; subst hi hj; simp at h3 h4; omega
      | i + 2, _ => simp at hi
      | 0, j + 2 => simp at hj
      | 1, j + 2 => simp at hj
    · intro i L a hi ha
      match i with
      | 0 => simp at hi; subst hi; simp at ha; subst ha; exact hw
      | 1 => simp at hi; subst hi; simp at ha; subst ha; exact hwp
      | i + 2 => simp at hi
  clear hB8 hf8 HB Y3 VY
  go_wp2_with fail
  refine (hA.out).mono ?_
  rintro e w9 ⟨rfl, b9⟩
  clear hA
  go_wp2_with fail
  refine (lives_true _).mono ?_
  rintro e w10 ⟨rfl, q⟩
  go_wp2_with fail
  go_ret
  exact ⟨rfl, b9.trans (q.mono b9.size)⟩

set_option linter.unusedSimpArgs false in
set_option maxHeartbeats 16000000 in
theorem walk_long (k : Pk) (A : Option Addr) (n c : Nat) (zs : List Int) (w : World) (H : FitsP w k A n c zs) (h3 : n ≤ 3000) (hok : ¬ OkP k n) :
    Calls Try.prog 3 #[pv k (.slice A n c)] w fun e w' => e = .returned (.bool true) ∧ Below w.heap.size w w' := by
  have Y0 := (Lay.begin w).new (pc k (.slice A n c)) 30 (g := w.heap.size) rfl
  have P0 := pktAt Y0 mem0 H.m
  have y0 := P0.body
  have L0 := veil P0.all
  have i3 : ¬ (3000 : Int) < (n : Int) := by omega
  have n16 : n ≤ 16000000 := by omega
  have HS := veil H.slc
  have HL := veil H.len
  have HM := veil H.m
  have HV := veil H.v
  have K := veil (twinPacket_any k A n c zs (w.alloc (.cells (pc k (.slice A n c)).toArray 30)) H.m H.len n16 (slc_rd (H.slc.keep Y0.below)).1)
  have VY0 := veil Y0
  have VOK := veil hok
  clear Y0 P0 H hok
  go_enter Try.func3, Try.ntmps3
  go_wp2_with (refine wpList_load_of rfl (.tmp 1) rfl rfl L0.out ?_)
  refine (K.out).mono ?_
  rintro e w1 ⟨g, hg, rfl, t1, q⟩
  have Y1 := VY0.out.got q t1 hg
  have hw : w.heap.size ≤ g := Nat.le_trans VY0.out.size hg
  obtain ⟨Z, hZ⟩ : ∃ Z, Z = zp := ⟨_, rfl⟩
  have hz : Hid (Z.toList.length = 40) := by rw [hZ]; exact rfl
  have Y2 := Y1.newA Z 30 (g := w1.heap.size) rfl
  have T1 := veil (pkt_store (k := k) (v := .slice (some ⟨g, 0, none⟩) n (n + 4)) Y2 mem0 hz.out HM.out rfl)
  have Y3 := Y2.put 0 rfl (pc k (.slice (some ⟨g, 0, none⟩) n (n + 4)))
  simp only [List.set_cons_zero] at Y3
  obtain ⟨u1, hu⟩ : ∃ u, (w1.alloc (.cells Z 30)).setRow w1.heap.size (pc k (.slice (some ⟨g, 0, none⟩) n (n + 4))).toArray = u := ⟨_, rfl⟩
  rw [hu] at T1 Y3
  have L1 := veil (pktAt Y3 mem0 HM.out).all
  have S1 : Slc u1 (.slice (some ⟨g, 0, none⟩) n (n + 4)) zs := .inr ⟨_, n + 4, by rw [HL.out], TwinAt.rd (Y3.at mem1), by rw [HL.out]; omega⟩
  have K1 := veil (codePut_long k (some ⟨g, 0, none⟩) n (n + 4) zs u1 HM.out HV.out S1 VOK.out n16)
  have VY := veil Y3
  clear q t1 Y1 Y2 Y3 K VY0 hu S1 L0 y0 hg
  generalize Z.toList = ZL at *
  unfold zp at hZ
  subst hZ
  go_wp2_with (first
    | (refine wpList_store_of rfl _ _ rfl rfl rfl T1.out ?_)
    | (refine wpList_load_of rfl (.tmp 3) rfl rfl L1.out ?_))
  clear T1 hz L1
  generalize w1.heap.size = gt at *
  refine (K1.out).mono ?_
  rintro e w2 ⟨rfl, q⟩
  have Y4 := VY.out.keep q
  have L2 := veil (pktAt Y4 mem2 HM.out).all
  have K2 := veil (refPut_long k A n c w2 HM.out n16 VOK.out)
  have VY2 := veil Y4
  clear K1 VY q Y4
  go_wp2_with (refine wpList_load_of rfl (.tmp 1) rfl rfl L2.out ?_)
  refine (K2.out).mono ?_
  rintro e w3 ⟨rfl, q3⟩
  have Y5 := VY2.out.keep q3
  have S := veil (sameBytes_eq none none 0 0 0 [] w3 rfl (by unfold maxLen; omega) (by simp [Rd]) (by simp [Rd]))
  clear K2 L2 VY2 q3
  have VY := veil Y5
  clear Y5
  go_wp2_with fail
  refine (S.out).mono ?_
  rintro e w4 ⟨rfl, st⟩
  have Y6 := VY.out.still st
  have L3 := veil (pktAt Y6 mem0 HM.out).all
  have L4 := veil (pktAt Y6 mem2 HM.out).all
  have KL := veil (leftPacket_true k g A n (n + 4) c zs w4 HM.out HL.out n16 (Y6.at mem1) (slc_rd (HS.out.keep Y6.below)).1 (Nat.le_refl _))
  have VY2 := veil Y6
  clear S st VY Y6
  go_wp2_with (first
    | (refine wpList_load_of rfl (.tmp 3) rfl rfl L3.out ?_)
    | (refine wpList_load_of rfl (.tmp 1) rfl rfl L4.out ?_))
  refine (KL.out).mono ?_
  rintro e w5 ⟨rfl, q5⟩
  have Y7 := VY2.out.keep q5
  have b0 : (w5.alloc (.cells #[.slice none 0 0] 40)).cell? ⟨gt, 39, none⟩ = some (.slice (some ⟨g, 0, none⟩) n (n + 4)) := (Y7.keep (below_new w5 _)).look mem0 (pc_body HM.out)
  have VY := veil Y7
  clear KL L3 L4 VY2 q5 Y7
  go_wp2_with fail
  have hB := book_new w5
  have Y1 := VY.out.keep (below_new w5 (.cells #[.slice none 0 0] 40))
  have s6 : w5.heap.size ≤ (w5.alloc (.cells #[.slice none 0 0] 40)).heap.size := by simp
  have s5 : w.heap.size ≤ w5.heap.size := VY.out.size
  generalize w5.alloc (.cells #[.slice none 0 0] 40) = w6 at *
  generalize w5.heap.size = kb at *
  clear VY
  refine (note_any w6 kb kb [] _ _ _ hB (by simp) s6).mono ?_
  rintro e w7 ⟨rfl, ⟨x7, y7, hB7⟩, hf7⟩
  have Y2 := Y1.bfB hf7 s5 (by rfl)
  have s7 : kb ≤ w7.heap.size := Nat.le_trans s6 hf7.1.size
  clear b0
  have VY := veil Y2
  have HB := veil hB7
  clear hB hB7 hf7 Y1 Y2 s6
  go_wp2_with fail
  refine (note_any w7 kb kb _ _ _ _ HB.out (by simp) s7).mono ?_
  rintro e w8 ⟨rfl, ⟨x8, y8, hB8⟩, hf8⟩
  have Y3 := VY.out.bfB hf8 s5 (by rfl)
  have hA : Hid (Calls Try.prog 16 #[.pointer (some ⟨kb, 0, none⟩)] w8 fun e w' => e = .returned (.bool true) ∧ Below w.heap.size w w') := by
    have hl' := HL.out
    refine apart_any w.heap.size w w8 kb kb _ hB8 (by simp) Y3.below Y3.below.size ?_ ?_ ?_
    · intro i L hi
      match i with
      | 0 => simp at hi; subst hi; exact ⟨by simp, by simp; omega, fun _ => ⟨_, _, _, rfl, Y3.at mem1, by simp [bv_length, hl']⟩⟩
      | 1 => simp at hi; subst hi; exact ⟨by simp, by simp, fun h => by simp at h⟩
      | i + 2 => simp at hi
    · intro i j L M hi hj hij b1 o1 o2 h3 h4
      exfalso
      match i, j with
      | 0, 0 => exact hij rfl
      | 1, 1 => exact hij rfl
      | 0, 1 => simp at hi hj; subst hi hj; simp at h4
      | 1, 0 => simp at hi hj; subst hi hj; simp at h3
      | i + 2, _ => simp at hi
      | 0, j + 2 => simp at hj
      | 1, j + 2 => simp at hj
    · intro i L a hi ha
      match i with
      | 0 => simp at hi; subst hi; simp at ha; subst ha; exact hw
      | 1 => simp at hi; subst hi; simp at ha
      | i + 2 => simp at hi
  clear hB8 hf8 HB Y3 VY
  go_wp2_with fail
  refine (hA.out).mono ?_
  rintro e w9 ⟨rfl, b9⟩
  clear hA
  go_wp2_with fail
  refine (lives_true _).mono ?_
  rintro e w10 ⟨rfl, q⟩
  go_wp2_with fail
  go_ret
  exact ⟨rfl, b9.trans (q.mono b9.size)⟩

/-- more than are gone through -/
theorem walk_more (k : Pk) (A : Option Addr) (n c : Nat) (w : World) (M : Hd.Ends k) (h : 3000 < n) :
    Calls Try.prog 3 #[pv k (.slice A n c)] w fun e w' => e = .returned (.bool true) ∧ Below w.heap.size w w' := by
  have Y0 := (Lay.begin w).new (pc k (.slice A n c)) 30 (g := w.heap.size) rfl
  have y0 := (pktAt Y0 mem0 M).body
  have i3 : (3000 : Int) < (n : Int) := by omega
  have Q := veil Y0.below
  clear Y0 M
  go_enter Try.func3, Try.ntmps3
  go_wp2_with fail
  refine (lives_true _).mono ?_
  rintro e w1 ⟨rfl, q⟩
  go_wp2_with fail
  go_ret
  exact ⟨rfl, Q.out.trans (q.mono Q.out.size)⟩

theorem own : ownKnob Try.prog.godebug = none := by kernel_rfl
theorem readable : ∀ t ∈ Try.f3.params.toList, Try.prog.readableRec t = true ∧ t < Try.prog.types.size := by
  rw [Try.params3]
  intro t ht
  simp at ht
  subst ht
  exact ⟨by kernel_rfl, of_decide_eq_true (by kernel_rfl)⟩

set_option maxRecDepth 100000 in
theorem lifted (os : Os) (started : os.Started) (H : Type) (enc : TypeId × Value → H) :
    ReturnsInHanded {} Try.checked os 3 .any (Rows.headersPutSpec.pre6 enc Try.prog Try.f3 Rows.headersPutRow.domain false) (Rows.headersPutSpec.post enc Try.prog Try.f3 false true false false) := by
  refine returnsInHanded_of_change_sized (C := Try.checked) own started (by kernel_rfl) Try.func3
    (ChangeSpec.witness6 (enc := enc) (C := Try.checked) false ⟨#[], #[.agg #[.int .u8 0, .int .u8 0, .int .u8 0, .int .u8 0, .int .u8 0, .int .u8 0, .int .u8 0, .int .u8 0, .int .u8 0, .int .u8 0, .int .u8 0, .int .u8 0, .int .u8 0, .int .u8 0, .int .u8 0, .int .u8 0, .int .u8 0, .int .u8 0, .int .u8 0, .int .u8 0, .int .u8 0, .int .u8 0, .int .u8 0, .int .u8 0, .int .u8 0, .int .u8 0, .int .u8 0, .int .u8 0, .int .u8 0, .int .u8 0, .int .u8 0, .int .u8 0, .int .u8 0, .bool false, .bool false, .int .u32 0, .int .u16 0, .bool false, .int .u8 0, .slice none 0 0]], []⟩ 8 (by kernel_rfl) (by kernel_rfl) (by kernel_rfl) (by kernel_rfl)) ?_
  intro W base args ds gs before hval0 hW _ hsz0 _
  have hval : ∀ (j : Nat) t v, Try.f3.params[j]? = some t → args[j]? = some v → Value.okWide Try.prog W .any base t v := hval0
  have hW' := hW
  obtain ⟨p, q, hA0, hV, rfl, _, _⟩ := hW
  have hA : DataW.TrodAll enc Try.prog W 0 (fun _ => true) true Try.f3.params.toList args.toList ds p := hA0
  rw [Try.params3] at hA hval
  obtain ⟨v0, vs0, d0, ds0, p0, q0, hargs, rfl, rfl, h0, r0⟩ := trodAll_cons hA
  obtain ⟨rfl, rfl, rfl⟩ := trodAll_nil r0
  obtain rfl : args = #[v0] := by cases args; simp_all
  obtain ⟨rfl, rfl⟩ := trodVars_none hV
  obtain ⟨k, A, n, c, zs, rfl, F⟩ := open_packet (hval 0 30 v0 rfl rfl) (opens_arg h0 (slim_of hsz0 (j := 0) rfl rfl))
  have hw : Calls Try.prog 3 #[pv k (.slice A n c)] W fun e w' => e = .returned (.bool true) ∧ Below W.heap.size W w' := by
    rcases (by omega : 3000 < n ∨ n ≤ 3000) with h | h
    · exact walk_more k A n c W F.m h
    · by_cases hok : OkP k n
      · exact walk_ok k A n c zs W F h hok
      · exact walk_long k A n c zs W F h hok
  refine hw.mono fun e W' ⟨he, hb⟩ => ?_
  subst he
  exact ⟨_, rfl, law_post (by kernel_rfl) rfl rfl Try.underlying4 readable hW' rfl hb⟩

/-- HeadersPut, as given -/
theorem holds : Rows.HeadersPutSaid :=
  OpenClaim.holds_of_wide 3 Try.f3 rfl rfl rfl rfl rfl rfl rfl ⟨rfl, rfl, rfl, rfl, rfl⟩ rfl rfl rfl rfl rfl (by kernel_rfl) Try.func3 (by kernel_rfl)
    (of_decide_eq_true (by kernel_rfl)) (by unfold Func.isWrapper; first | (rw [if_pos (by decide +kernel)]; kernel_rfl) | (rw [if_neg (by decide +kernel)]; exact ⟨rfl, rfl⟩))
    (fun os started H enc _ => lifted os started H enc)

#print axioms holds
end Go.Proofs.Ytfkjfdmepeahnaa.headersPut
