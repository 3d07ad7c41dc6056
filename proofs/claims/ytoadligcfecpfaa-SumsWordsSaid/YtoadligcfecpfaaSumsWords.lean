/-
  SumsWords: words may be taken in any order; words of noughts more, and an odd last byte with a nought behind it, change nothing: the law returns true for every input, and its arguments read as before.
  Conditions: none.
-/
import Derived.Test.YtoadligcfecpfaaSumWd
import Derived.Deep.RegionHeld3
namespace Go.Proofs.Ytoadligcfecpfaa.sumsWords
open Go.ChangeShapes Go.WideShapes Go.ChangeAt Go.RowKit

set_option maxHeartbeats 4000000 in
theorem walk (A : Option Addr) (n c : Nat) (ls : List Int) (k : Nat) (w : World) (hl : ls.length = n) (hn : n ≤ 500) (hn1 : 1 ≤ n) (hr : Rd16 w A ls) (hw : Wrd ls) (hk : k ≤ 65535) :
    Calls Try.prog 6 #[.slice A n c, .int .u16 k] w fun e w' => e = .returned (.bool true) ∧ Below w.heap.size w w' := by
  have HL := veil hl
  have HR := veil hr
  have HW := veil hw
  clear hl hr hw
  have hn0 : ((n : Int) == 0) = false := by simp; omega
  go_enter Try.func6, Try.ntmps6
  go_wp2_with fail
  go_loopw [5, 6, 7] (fun va vb i wr => ∃ j : Nat, j ≤ n ∧ i = .int .i64 j ∧ Hid (Own wr w.heap.size va (flat (ls.take j)) ∧ Own wr w.heap.size vb (flat ((turnd ls k).take j)) ∧ Sep va vb ∧ Below w.heap.size w wr)) (fun _ _ i _ => n - (intOf i).toNat)
  case atStart => exact ⟨0, Nat.zero_le _, rfl, own_nil _ _, own_nil _ _, (fun k h => by cases h), Below.refl _ _⟩
  case round =>
    obtain ⟨j, hj, rfl, hI⟩ := hrel
    by_cases hlt : j < n
    · obtain ⟨a, rfl, hc⟩ := HR.out j (by rw [HL.out]; exact hlt)
      obtain ⟨kk, hkk⟩ : ∃ kk, (n - 1 - j + k) % n = kk := ⟨_, rfl⟩
      have hkl : kk < n := by rw [← hkk]; exact Nat.mod_lt _ (by omega)
      obtain ⟨a', e, hc2⟩ := HR.out kk (by rw [HL.out]; exact hkl)
      injection e with e
      subst e
      have hx := HW.out.at_ j
      have hy := HW.out.at_ kk
      have NX := veil (flat_next ls j (by rw [HL.out]; exact hlt))
      have NY := veil (flat_next (turnd ls k) j (by rw [turnd_length, HL.out]; exact hlt))
      have hty := turnd_at ls k j (by rw [HL.out]; exact hlt)
      rw [HL.out, hkk] at hty
      rw [hty] at NY
      generalize ls.getD j 0 = x at hc hx NX
      generalize ls.getD kk 0 = y at hc2 hy NY
      have hke : ((n : Int) - 1 - j + k) % n = (kk : Int) := by
        rw [← hkk, Int.natCast_emod]
        congr 1
        omega
      clear hty hkk
      go_wp2_with fail
      rw [hke]
      clear hke
      obtain ⟨oa, ob, sp, bb⟩ := hI.out
      clear hI
      have oa1 : Own wr.drew w.heap.size u5 (flat (ls.take j)) := oa
      have ob1 : Own wr.drew w.heap.size u6 (flat ((turnd ls k).take j)) := ob
      have bb1 : Below w.heap.size w wr.drew := still_below bb
      clear oa ob bb
      have q2 := below_new wr.drew (.cells #[.int .u8 (x / 256), .int .u8 (x % 256)] 5)
      have bb2 := bb1.trans (q2.mono bb1.size)
      have r2 := row_new (w := wr.drew) (cs := #[.int .u8 (x / 256), .int .u8 (x % 256)]) (t := 5) rfl
      have la : (flat (ls.take j)).length ≤ 1000 := by rw [flat_length]; simp; omega
      have lb : (flat ((turnd ls k).take j)).length ≤ 1000 := by rw [flat_length]; simp; omega
      obtain ⟨v3, w3, H3, oa3, ob3, sp3, bb3, _⟩ := own_two _ w.heap.size 22 u5 u6 (.slice (some ⟨wr.drew.heap.size, 0, none⟩) 2 2) _ _ [x / 256, x % 256] (own_new oa1 _) (own_new ob1 _) sp (.inr ⟨_, 2, rfl, rd_lit r2 rfl, by simp⟩) (by simp; omega) bb2.size w bb2
      rw [← NX.out] at oa3
      have hcb := block_lt_of_cell hc
      have C1 : Hid (wr.drew.cell? (a.add j) = some (.int .u16 x)) := (bb1.cell hcb).trans hc
      have C2 : Hid ((wr.drew.alloc (.cells #[.int .u8 (x / 256), .int .u8 (x % 256)] 5)).cell? (a.add j) = some (.int .u16 x)) := (bb2.cell hcb).trans hc
      have C3 : Hid (w3.cell? (a.add j) = some (.int .u16 x)) := (bb3.cell hcb).trans hc
      have HA := veil H3
      have I3 := veil (show Own w3 w.heap.size v3 (flat (ls.take (j + 1))) ∧ Own w3 w.heap.size u6 (flat ((turnd ls k).take j)) ∧ Sep v3 u6 ∧ Below w.heap.size w w3 from ⟨oa3, ob3, sp3, bb3⟩)
      clear oa1 ob1 bb1 q2 bb2 r2 la H3 oa3 ob3 sp3 bb3 hcb sp NX
      have hw0 : IntKind.u8.wrap (x / 256) = x / 256 := by simp [IntKind.wrap, IntKind.signed, IntKind.bits]; omega
      have hw1 : IntKind.u8.wrap x = x % 256 := by simp [IntKind.wrap, IntKind.signed, IntKind.bits]
      go_region_held3 (fun w' => w'.cell? (a.add j) = some (.int .u16 x)) (first | exact C1.out | exact C2.out | exact C3.out)
        (first
          | (rw [if_pos (by rfl)]; refine wp_append_of (.tmp 37) (.tmp 49) rfl rfl rfl HA.out ?_))
      clear C1 C2 C3 HA hw0 hw1
      go_wp2_with fail
      obtain ⟨oa, ob, sp, bb⟩ := I3.out
      clear I3
      have oa1 : Own w3.drew w.heap.size v3 (flat (ls.take (j + 1))) := oa
      have ob1 : Own w3.drew w.heap.size u6 (flat ((turnd ls k).take j)) := ob
      have bb1 : Below w.heap.size w w3.drew := still_below bb
      clear oa ob bb
      have q2 := below_new w3.drew (.cells #[.int .u8 (y / 256), .int .u8 (y % 256)] 5)
      have bb2 := bb1.trans (q2.mono bb1.size)
      have r2 := row_new (w := w3.drew) (cs := #[.int .u8 (y / 256), .int .u8 (y % 256)]) (t := 5) rfl
      obtain ⟨v4, w4, H4, ob4, oa4, sp4, bb4, _⟩ := own_two _ w.heap.size 22 u6 v3 (.slice (some ⟨w3.drew.heap.size, 0, none⟩) 2 2) _ _ [y / 256, y % 256] (own_new ob1 _) (own_new oa1 _) sp.symm (.inr ⟨_, 2, rfl, rd_lit r2 rfl, by simp⟩) (by simp; omega) bb2.size w bb2
      rw [← NY.out] at ob4
      have hcb := block_lt_of_cell hc2
      have C1 : Hid (w3.drew.cell? (a.add kk) = some (.int .u16 y)) := (bb1.cell hcb).trans hc2
      have C2 : Hid ((w3.drew.alloc (.cells #[.int .u8 (y / 256), .int .u8 (y % 256)] 5)).cell? (a.add kk) = some (.int .u16 y)) := (bb2.cell hcb).trans hc2
      have C3 : Hid (w4.cell? (a.add kk) = some (.int .u16 y)) := (bb4.cell hcb).trans hc2
      have HA := veil H4
      have I4 := veil (show Own w4 w.heap.size v3 (flat (ls.take (j + 1))) ∧ Own w4 w.heap.size v4 (flat ((turnd ls k).take (j + 1))) ∧ Sep v3 v4 ∧ Below w.heap.size w w4 from ⟨oa4, ob4, sp4.symm, bb4⟩)
      clear oa1 ob1 bb1 q2 bb2 r2 lb H4 oa4 ob4 sp4 bb4 hcb sp NY
      have hw0 : IntKind.u8.wrap (y / 256) = y / 256 := by simp [IntKind.wrap, IntKind.signed, IntKind.bits]; omega
      have hw1 : IntKind.u8.wrap y = y % 256 := by simp [IntKind.wrap, IntKind.signed, IntKind.bits]
      go_region_held3 (fun w' => w'.cell? (a.add kk) = some (.int .u16 y)) (first | exact C1.out | exact C2.out | exact C3.out)
        (first
          | (rw [if_pos (by rfl)]; refine wp_append_of (.tmp 51) (.tmp 63) rfl rfl rfl HA.out ?_))
      clear C1 C2 C3 HA hw0 hw1
      go_wp2_with fail
      go_roundw
      case rel => exact ⟨j + 1, by omega, by go_num, I4⟩
      case measure => simp [intOf]; omega
    · obtain rfl : j = n := by omega
      obtain ⟨oa, ob, sp, bb⟩ := hI.out
      clear hI
      rw [List.take_of_length_le (by rw [HL.out]; omega)] at oa
      rw [List.take_of_length_le (by rw [turnd_length, HL.out]; omega)] at ob
      have la : (flat ls).length = 2 * j := by rw [flat_length, HL.out]
      have lb : (flat (turnd ls k)).length = 2 * j := by rw [flat_length, turnd_length, HL.out]
      have BA := veil (flat_byt ls HW.out)
      have BB := veil (flat_byt (turnd ls k) (turnd_wrd ls k HW.out))
      have eab : ck (flat (turnd ls k)) = ck (flat ls) := by unfold ck; rw [tot_flat, tot_flat, turnd_wsum]
      obtain ⟨ga, ca, resta, rfl, hga, ra, hca⟩ := own_row oa (fun e => by rw [e] at la; simp at la; omega)
      obtain ⟨gb, cb, restb, rfl, hgb, rb, hcb⟩ := own_row ob (fun e => by rw [e] at lb; simp at lb; omega)
      have SA := veil (Own.slc oa)
      have SB := veil (Own.slc ob)
      generalize flat (turnd ls k) = fb at *
      generalize flat ls = fa at *
      obtain ⟨m, hm⟩ : ∃ m, 2 * j = m := ⟨_, rfl⟩
      rw [hm] at la lb
      have hm1 : 2 ≤ m := by omega
      have hm2 : m ≤ 1000 := by omega
      rw [la] at SA hca
      rw [lb] at SB hcb
      have LA := veil la
      have LB := veil lb
      have EAB := veil eab
      rw [la, lb]
      have q1 := below_new wr (.cells #[.slice (some ⟨ga, 0, none⟩) m ca] 22)
      have b1 := bb.trans (q1.mono bb.size)
      have SA1 := veil (SA.out.keep q1)
      have SB1 := veil (SB.out.keep q1)
      have RA1 := veil (ra.keep q1)
      have K1 := veil (of1 _ _ _ fa _ (row_new (w := wr) (cs := #[.slice (some ⟨ga, 0, none⟩) m ca]) (t := 22) rfl) SA1.out BA.out (by rw [LA.out]; unfold maxLen; omega))
      clear oa ob sp eab la lb HR HW hm q1 SA SB ra rb
      go_wp2_with fail
      generalize wr.alloc (.cells #[.slice (some ⟨ga, 0, none⟩) m ca] 22) = w1 at *
      refine (K1.out).mono ?_
      rintro e w2 ⟨rfl, q2⟩
      have b2 := b1.trans (q2.mono b1.size)
      have SA2 := veil (SA1.out.keep q2)
      have SB2 := veil (SB1.out.keep q2)
      have RA2 := veil (RA1.out.keep q2)
      obtain ⟨v, hv⟩ : ∃ v, ck fa = v := ⟨_, rfl⟩
      rw [hv] at EAB ⊢
      have HV := veil hv
      have q3 := below_new w2 (.cells #[.slice (some ⟨gb, 0, none⟩) m cb] 22)
      have b3 := b2.trans (q3.mono b2.size)
      have SA3 := veil (SA2.out.keep q3)
      have RA3 := veil (RA2.out.keep q3)
      have K3 := of1 _ _ _ fb _ (row_new (w := w2) (cs := #[.slice (some ⟨gb, 0, none⟩) m cb]) (t := 22) rfl) (SB2.out.keep q3) BB.out (by rw [LB.out]; unfold maxLen; omega)
      rw [EAB.out] at K3
      have HK3 := veil K3
      clear hv K3 q3 b2 SA2 RA2 SB2 q2 b1 SA1 SB1 RA1 K1 BB EAB LB
      go_wp2_with fail
      generalize w2.alloc (.cells #[.slice (some ⟨gb, 0, none⟩) m cb] 22) = w3 at *
      refine (HK3.out).mono ?_
      rintro e w4 ⟨rfl, q4⟩
      have b4 := b3.trans (q4.mono b3.size)
      have SA4 := veil (SA3.out.keep q4)
      have RA4 := veil (RA3.out.keep q4)
      have hmk := run_make_u8 6 (by omega) w4
      simp only [Int.cast_ofNat_Int] at hmk
      clear q4 b3 SA3 RA3 HK3
      go_wp2_with fail
      clear hmk
      have q5 := (below_new w4 (.cells (zeros 6) 5)).trans ((below_new (w4.alloc (.cells (zeros 6) 5)) (.cells #[.slice (some ⟨ga, 0, none⟩) m ca, .slice (some ⟨w4.heap.size, 0, none⟩) 6 6] 22)).mono (by simp))
      have z5 := (row_new (w := w4) (cs := zeros 6) (t := 5) rfl).keep (below_new _ (.cells #[.slice (some ⟨ga, 0, none⟩) m ca, .slice (some ⟨w4.heap.size, 0, none⟩) 6 6] 22))
      have r5 := row_new (w := w4.alloc (.cells (zeros 6) 5)) (cs := #[.slice (some ⟨ga, 0, none⟩) m ca, .slice (some ⟨w4.heap.size, 0, none⟩) 6 6]) (t := 22) (show w4.heap.size + 1 = _ by simp)
      have b5 := b4.trans (q5.mono b4.size)
      have RA5 := veil (RA4.out.keep q5)
      have K5 := of2 _ _ _ _ fa (List.replicate 6 0) _ r5 (SA4.out.keep q5) BA.out (by rw [LA.out]; unfold maxLen; omega) (.inr ⟨_, 6, rfl, rd_lit z5 (zeros_bv 6), by simp⟩) (fun z hz => by simp at hz; omega) (by unfold maxLen; simp)
      have e5 : ck (fa ++ List.replicate 6 0) = v := by unfold ck; rw [tot_append_zeros]; exact HV.out
      rw [e5] at K5
      have HK5 := veil K5
      clear K5 e5 q5 z5 r5 b4 RA4 SA4 HV
      generalize (w4.alloc (.cells (zeros 6) 5)).alloc (.cells #[.slice (some ⟨ga, 0, none⟩) m ca, .slice (some ⟨w4.heap.size, 0, none⟩) 6 6] 22) = w5 at *
      refine (HK5.out).mono ?_
      rintro e w6 ⟨rfl, q6⟩
      have b6 := b5.trans (q6.mono b5.size)
      have RA6 := veil (RA5.out.keep q6)
      clear HK5 q6 b5 RA5
      have LO : Hid ((fa.take (m - 1)).length = m - 1) := by simp only [Hid, List.length_take]; have := LA.out; omega
      have BO : Hid (Byt (fa.take (m - 1))) := BA.out.take _
      have odd_slc : ∀ w', Row w' ga 5 (bv fa ++ resta).toArray → Slc w' (.slice (some ⟨ga, 0, none⟩) (m - 1) ca) (fa.take (m - 1)) := fun w' h => .inr ⟨_, ca, by rw [LO.out], (row_part h).take _, by rw [LO.out]; omega⟩
      have q7 := below_new w6 (.cells #[.slice (some ⟨ga, 0, none⟩) (m - 1) ca] 22)
      have b7 := b6.trans (q7.mono b6.size)
      have RA7 := veil (RA6.out.keep q7)
      have K7 := veil (of1 _ _ _ (fa.take (m - 1)) _ (row_new (w := w6) (cs := #[.slice (some ⟨ga, 0, none⟩) (m - 1) ca]) (t := 22) rfl) (odd_slc _ RA7.out) BO.out (by rw [LO.out]; unfold maxLen; omega))
      have HO := veil odd_slc
      clear odd_slc q7 b6 RA6
      go_wp2_with fail
      generalize w6.alloc (.cells #[.slice (some ⟨ga, 0, none⟩) (m - 1) ca] 22) = w7 at *
      refine (K7.out).mono ?_
      rintro e w8 ⟨rfl, q8⟩
      have b8 := b7.trans (q8.mono b7.size)
      have RA8 := veil (RA7.out.keep q8)
      clear K7 q8 b7 RA7
      obtain ⟨u, hu⟩ : ∃ u, ck (fa.take (m - 1)) = u := ⟨_, rfl⟩
      rw [hu]
      obtain ⟨v9, w9, H9, O9, G9, _⟩ := run_append_slc w8 w8.heap.size 22 (.slice none 0 0) (.slice (some ⟨ga, 0, none⟩) (m - 1) ca) [] (fa.take (m - 1)) (own_nil _ _) (HO.out w8 RA8.out) (by rw [LO.out]; simp; omega) (Nat.le_refl _)
      rw [List.nil_append] at O9
      have q9 : Below w8.heap.size w8 w9 := own_below (own_nil w8 w8.heap.size) G9 (Below.refl _ _) (Nat.le_refl _)
      have q10 := below_new w9 (.cells #[.int .u8 0] 5)
      have r10 := row_new (w := w9) (cs := #[.int .u8 0]) (t := 5) rfl
      obtain ⟨v11, w11, H11, O11, G11, _⟩ := run_append_slc (w9.alloc (.cells #[.int .u8 0] 5)) w8.heap.size 22 v9 (.slice (some ⟨w9.heap.size, 0, none⟩) 1 1) (fa.take (m - 1)) [0] (own_new O9 _) (.inr ⟨_, 1, rfl, rd_lit r10 rfl, by simp⟩) (by rw [LO.out]; simp; omega) (Nat.le_trans q9.size q10.size)
      have q11 : Below w8.heap.size w8 w11 := own_below (own_new O9 _) G11 (q9.trans (q10.mono q9.size)) (Nat.le_trans q9.size q10.size)
      have b11 := b8.trans (q11.mono b8.size)
      have S11 := O11.slc
      obtain ⟨A11, c11, rfl, _, _⟩ := O11.slc.slice
      have l11 : (fa.take (m - 1) ++ [0]).length = m := by rw [List.length_append, LO.out]; simp; omega
      rw [l11] at S11 H11
      have q12 := below_new w11 (.cells #[.slice A11 m c11] 22)
      have b12 := b11.trans (q12.mono b11.size)
      have K12 := of1 _ _ _ (fa.take (m - 1) ++ [0]) _ (row_new (w := w11) (cs := #[.slice A11 m c11]) (t := 22) rfl) (S11.keep q12) (byt_append BO.out (fun z hz => by simp at hz; omega)) (by rw [l11]; unfold maxLen; omega)
      have e12 : ck (fa.take (m - 1) ++ [0]) = u := by rw [← hu]; unfold ck; rw [tot_snoc, Int.mul_zero, Int.add_zero]
      rw [e12] at K12
      have HK12 := veil K12
      have HR9 := veil H9
      have HR11 := veil H11
      clear K12 e12 q12 b11 l11 S11 O11 G11 H11 q11 r10 q10 q9 H9 O9 G9 hu b8 RA8 HO LO BO LA BA
      go_wp2_with (first
        | (at_builtin; refine wpList_append_w rfl (.const (.slice none 0 0)) (.tmp 90) rfl rfl rfl HR9.out ?_)
        | (at_builtin; refine wpList_append_w rfl (.tmp 91) (.tmp 92) rfl rfl rfl HR11.out ?_))
      clear HR9 HR11
      generalize w11.alloc (.cells #[.slice A11 m c11] 22) = w12 at *
      refine (HK12.out).mono ?_
      rintro e w13 ⟨rfl, q13⟩
      have b13 := b12.trans (q13.mono b12.size)
      clear HK12 q13 b12
      go_wp2_with fail
      refine (lives_true _).mono ?_
      rintro e w14 ⟨rfl, q14⟩
      have b14 := b13.trans (q14.mono b13.size)
      clear q14 b13
      go_wp2_with fail
      go_ret
      exact ⟨rfl, b14⟩

/-- none, or more, than are gone through -/
theorem walk_more (A : Option Addr) (n c : Nat) (k : Int) (w : World) (h : 500 < n ∨ n = 0) :
    Calls Try.prog 6 #[.slice A n c, .int .u16 k] w fun e w' => e = .returned (.bool true) ∧ Below w.heap.size w w' := by
  by_cases h1 : 500 < n
  · go_enter Try.func6, Try.ntmps6
    go_wp2_with fail
    refine (lives_true _).mono ?_
    rintro e w6 ⟨rfl, q6⟩
    go_wp2_with fail
    go_ret
    exact ⟨rfl, q6⟩
  · obtain rfl : n = 0 := by omega
    go_enter Try.func6, Try.ntmps6
    go_wp2_with fail
    refine (lives_true _).mono ?_
    rintro e w6 ⟨rfl, q6⟩
    go_wp2_with fail
    go_ret
    exact ⟨rfl, q6⟩

theorem own : ownKnob Try.prog.godebug = none := by kernel_rfl
theorem readable : ∀ t ∈ Try.f6.params.toList, Try.prog.readableRec t = true ∧ t < Try.prog.types.size := by
  rw [Try.params6]
  intro t ht
  simp at ht
  rcases ht with rfl | rfl
  · exact ⟨by kernel_rfl, of_decide_eq_true (by kernel_rfl)⟩
  · exact ⟨by kernel_rfl, of_decide_eq_true (by kernel_rfl)⟩

set_option maxRecDepth 100000 in
theorem lifted (os : Os) (started : os.Started) (H : Type) (enc : TypeId × Value → H) :
    ReturnsInHanded {} Try.checked os 6 .any (Rows.sumsWordsSpec.pre6 enc Try.prog Try.f6 Rows.sumsWordsRow.domain false) (Rows.sumsWordsSpec.post enc Try.prog Try.f6 false true false false) := by
  refine returnsInHanded_of_change (C := Try.checked) own started (by kernel_rfl) Try.func6
    (ChangeSpec.witness6 (enc := enc) (C := Try.checked) false ⟨#[], #[.slice none 0 0, .int .u16 0], []⟩ 8 (by kernel_rfl) (by kernel_rfl) (by kernel_rfl) (by kernel_rfl)) ?_
  intro W base args ds gs before hval0 hW _ _
  have hval : ∀ (j : Nat) t v, Try.f6.params[j]? = some t → args[j]? = some v → Value.okWide Try.prog W .any base t v := hval0
  have hW' := hW
  obtain ⟨p, q, hA0, hV, rfl, _, _⟩ := hW
  have hA : DataW.TrodAll enc Try.prog W 0 (fun _ => true) true Try.f6.params.toList args.toList ds p := hA0
  rw [Try.params6] at hA hval
  obtain ⟨v0, vs0, d0, ds0, p0, q0, hargs, rfl, rfl, h0, r0⟩ := trodAll_cons hA
  obtain ⟨v1, vs1, d1, ds1, p1, q1, rfl, rfl, rfl, h1, r1⟩ := trodAll_cons r0
  obtain ⟨rfl, rfl, rfl⟩ := trodAll_nil r1
  obtain rfl : args = #[v0, v1] := by cases args; simp_all
  obtain ⟨rfl, rfl⟩ := trodVars_none hV
  obtain ⟨A, n, c, ls, rfl, hr, hl, hY⟩ := open_words (hval 0 40 v0 rfl rfl) h0
  obtain ⟨a1, rfl, rfl, rfl, w1⟩ := open_int Try.underlying25 (hval 1 25 v1 rfl rfl) h1
  have hb1 := u16_of w1
  obtain ⟨k, rfl⟩ := Int.eq_ofNat_of_zero_le hb1.1
  have hw : Calls Try.prog 6 #[.slice A n c, .int .u16 k] W fun e w' => e = .returned (.bool true) ∧ Below W.heap.size W w' := by
    by_cases hs : n ≤ 500 ∧ 1 ≤ n
    · exact walk A n c ls k W hl hs.1 hs.2 hr hY (by omega)
    · exact walk_more A n c k W (by omega)
  refine hw.mono fun e W' ⟨he, hb⟩ => ?_
  subst he
  exact ⟨_, rfl, law_post (by kernel_rfl) rfl rfl Try.underlying4 readable hW' rfl hb⟩

/-- SumsWords, as given -/
theorem holds : Rows.SumsWordsSaid :=
  OpenClaim.holds_of_wide 6 Try.f6 rfl rfl rfl rfl rfl rfl rfl ⟨rfl, rfl, rfl, rfl, rfl⟩ rfl rfl rfl rfl rfl (by kernel_rfl) Try.func6 (by kernel_rfl)
    (of_decide_eq_true (by kernel_rfl)) (by unfold Func.isWrapper; first | (rw [if_pos (by decide +kernel)]; kernel_rfl) | (rw [if_neg (by decide +kernel)]; exact ⟨rfl, rfl⟩))
    (fun os started H enc _ => lifted os started H enc)

#print axioms holds
end Go.Proofs.Ytoadligcfecpfaa.sumsWords
