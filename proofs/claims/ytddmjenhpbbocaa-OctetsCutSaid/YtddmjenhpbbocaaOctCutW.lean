/-
  The walk of the law OctetsCut: at most 5000 bytes and 100 asks: true, and nothing that was there has changed.
  Conditions: at most 5000 bytes and 100 asks (the law asks no more of others).
-/
import Derived.Test.YtddmjenhpbbocaaOctCutA
namespace Go.Proofs.Ytddmjenhpbbocaa.octetsCut
open Go.ChangeShapes Go.WideShapes Go.ChangeAt Go.RowKit

set_option maxRecDepth 100000 in
set_option maxHeartbeats 16000000 in
theorem walk (A L : Option Addr) (bn bc ln lc : Nat) (zs : List Int) (ps : List (Int × Int)) (w : World) (hz : zs.length = bn) (hl : ps.length = ln) (hbn : bn ≤ 5000) (hln : ln ≤ 100)
    (hS : Slc w (.slice A bn bc) zs) (hY : Byt zs) (hA : Asks w L ps) (hF : Fine ps) :
    Calls Try.prog 3 #[.slice A bn bc, .slice L ln lc] w fun e w' => e = .returned (.bool true) ∧ Below w.heap.size w w' := by
  have HZ := veil hz
  have HL := veil hl
  have HS := veil hS
  have HY := veil hY
  have HA := veil hA
  have HF := veil hF
  clear hz hl hS hY hA hF
  go_enter Try.func3, Try.ntmps3
  go_wp2_with fail
  refine (twinBytes_any A bn bc zs _ HZ.out (by omega) (slc_rd HS.out).1).mono ?_
  rintro e w1 ⟨rfl, hw1⟩
  have t1 : TwinAt w1 w.heap.size zs := by subst hw1; exact row_new rfl
  have b1 : Below w.heap.size w w1 := by subst hw1; exact below_new _ _
  have s1 : w.heap.size < w1.heap.size := t1.lt
  have T1 := veil t1
  clear hw1 t1
  go_wp2_with fail
  refine (of_new _ bn (bn + 4) zs w1 HZ.out (by omega) HY.out T1.out.rd).mono ?_
  rintro e w2 ⟨rfl, hc2, q2, s2, r2⟩
  have T2 := veil (T1.out.keep q2)
  have C2 : Hid (CutS w2 (w1.heap.size + 1) w1.heap.size zs 0 true) :=
    ⟨r2, HY.out, Nat.zero_le _, fun _ => ⟨0, zs.length, by simpa using hc2.row, by simp, fun _ => rfl⟩, (fun e => by cases e)⟩
  have b2 := b1.trans (q2.mono (by omega))
  clear hc2 q2 r2 T1 b1
  generalize hg : w1.heap.size + 1 = g at C2 ⊢
  generalize hd : w1.heap.size = d at C2 s1 hg s2 ⊢
  have HG := veil hg
  clear hg hd
  go_wp2_with fail
  refine (rof_any A bn bc zs w2 (by omega) (HS.out.keep b2)).mono ?_
  rintro e w3 ⟨A3, n3, c3, h, rfl, hh3, hr3, hn3, ho3, q3⟩
  have T3 := veil (T2.out.keep q3)
  have C3 := veil (C2.out.fr (Fr.of_below q3 []) (by simp) (by simp))
  have R3 : Hid (RefS w3 h zs 0 true) := ⟨fun _ => ⟨A3, n3, c3, hr3, by simpa using hn3.symm, by rw [← hn3]; have := slc_cap ho3.slc; omega, by simpa using own_brd ho3⟩, (fun e => by cases e)⟩
  have b3 := b2.trans (q3.mono b2.size)
  have s3 : w.heap.size ≤ h := Nat.le_trans b2.size hh3
  have s3' := q3.size
  clear hh3 hr3 hn3 ho3 q3 T2 C2 b2
  go_wp2_with fail
  have q4 := below_new w3 (.cells #[.slice none 0 0] 32)
  have hS4 : Sta w.heap.size w (w3.alloc (.cells #[.slice none 0 0] 32)) (w3.alloc (.cells #[.slice none 0 0] 32)) g h d w3.heap.size w3.heap.size zs 0 true [] :=
    ⟨C3.out.fr (Fr.of_below q4 []) (by simp) (by simp), R3.out.fr (Fr.of_below q4 []) (by simp) (by simp), book_new w3, ⟨by simp, by simp, by simp⟩, ⟨b3.trans (q4.mono b3.size), fun _ _ h => h⟩, q4.size, by have := HG.out; have := b3.size; omega⟩
  have T4 := veil (T3.out.keep q4)
  generalize w3.alloc (.cells #[.slice none 0 0] 32) = w4 at hS4 T4 ⊢
  generalize w3.heap.size = kb at hS4 ⊢
  have HS4 := veil hS4
  clear hS4 q4 T3 C3 R3 b3
  go_loopw [9] (fun i wr => ∃ (j p : Nat) (ok : Bool) (Ls : List Leaf), j ≤ ln ∧ i = .int .i64 j ∧ Hid (Sta w.heap.size w w4 wr g h d kb kb zs p ok Ls ∧ Ls.length ≤ j)) (fun i _ => ln - (intOf i).toNat)
  case atStart => exact ⟨0, 0, true, [], Nat.zero_le _, rfl, HS4.out, Nat.le_refl _⟩
  case round =>
    obtain ⟨j, p, ok, Ls, hj, rfl, hR⟩ := hrel
    clear HS4
    by_cases hlt : j < ln
    · have hjl : j < ps.length := by rw [HL.out]; exact hlt
      obtain ⟨lb, lo, rfl, c0, c1⟩ := (HA.out.keep hR.out.1.bel.1) j hjl
      have hf := fine_at HF.out j hjl
      generalize ps.getD j (0, 0) = q at c0 c1 hf
      obtain ⟨kd, n⟩ := q
      simp only at c0 c1 hf
      obtain ⟨hf0, hf1⟩ := hf
      have HRD : Hid (Sta w.heap.size w w4 wr.drew g h d kb kb zs p ok Ls) := hR.out.1.keep ⟨rfl, rfl, rfl, Nat.le_refl _, fun _ _ => rfl⟩
      have HO := veil (one_any w.heap.size w w4 wr.drew g h d kb kb zs p ok Ls kd n HRD.out (by rw [HZ.out]; exact hbn) (by have := hR.out.2; omega) hf0 hf1)
      have hLj := hR.out.2
      clear HZ HL HS HY HA HF T4 hR HRD s1 s2 s3 s3' HG hbn hln
      go_wp2_with fail
      go_region_with ((first
        | (go_at_call 13
           refine (HO.out).mono ?_
           rintro e w5 ⟨rfl, p5, ok5, Ms, hS5, hl5⟩
           obtain ⟨A5, cc5, m5, m6⟩ := ref_cells hS5.ref
           have HL5 := veil hS5.cut.leftS
           have HB5 := veil hS5.cut.badS
           have HS5 := veil (And.intro hS5 hl5)
           generalize (if ok5 = true then zs.length - p5 else 0 : Nat) = nl at m5 HL5
           clear hS5 hl5 HO)
        | (go_at_call 14
           refine (HL5.out).mono ?_
           rintro e w' ⟨rfl, rfl⟩)
        | (go_at_call 15
           refine (HB5.out).mono ?_
           rintro e w' ⟨rfl, rfl⟩)))
      all_goals
        go_wp2_with fail
        go_roundw
        case rel => exact ⟨j + 1, p5, ok5, Ms, by omega, by go_num, HS5.out.1, Nat.le_trans HS5.out.2 (by omega)⟩
        case measure => simp [intOf]; omega
    · have hS5 := hR.out.1
      have hLl : Ls.length ≤ 100 := by have := hR.out.2; omega
      have b5 := hS5.bel.1
      have t5 : TwinAt wr w.heap.size zs := hS5.bel.2 _ _ T4.out
      have r5 := hS5.cut.1
      have p5 := hS5.cut.2.2.1
      have HBK := veil hS5.book
      have HLV := veil hS5.lv
      have HT5 := veil t5
      have HR5 := veil r5
      have HP5 := veil p5
      have HBS := veil hS5.bs
      have HLT := veil hS5.lt
      have HLL := veil hLl
      clear hS5 t5 r5 p5 hR T4 hLl
      go_wp2_with fail
      refine (leftBytes_true _ _ bn (bn + 4) bc zs _ HZ.out (by omega) HT5.out (slc_rd (HS.out.keep b5)).1 (by omega)).mono ?_
      rintro e w6 ⟨rfl, hw6⟩
      have q6 := below_still (Below.refl wr.heap.size wr) hw6
      have T6 := veil (HT5.out.keep q6)
      have R6 := veil (HR5.out.keep q6)
      have K6 := veil (HBK.out.keep q6)
      have b6 := b5.trans (q6.mono b5.size)
      have s6 := Nat.le_trans HBS.out q6.size
      clear hw6 q6 HT5 HR5 HBK b5 HBS
      go_wp2_with fail
      refine (of_new _ bn (bn + 4) zs w6 HZ.out (by omega) HY.out (TwinAt.rd T6.out)).mono ?_
      rintro e w7 ⟨rfl, hc7, q7, s7, r7⟩
      have T7 := veil (T6.out.keep q7)
      have R7 := veil (R6.out.keep q7)
      have K7 := veil (K6.out.keep q7)
      have b7 := b6.trans (q7.mono b6.size)
      have C7 := veil hc7
      have D7 := veil r7
      have s67 : w.heap.size ≤ w6.heap.size := b6.size
      have d6 : d < w6.heap.size := R6.out.lt
      have t6 : w.heap.size < w6.heap.size := T6.out.lt
      have k7 : kb ≤ w7.heap.size := by omega
      clear hc7 q7 r7 T6 R6 K6 b6
      go_wp2_with fail
      generalize hg7 : w6.heap.size + 1 = g7 at C7 ⊢
      generalize w6.heap.size = d7 at C7 D7 s67 d6 t6 s7 s6 hg7 ⊢
      have G7 : w.heap.size < g7 ∧ d < g7 ∧ d7 < g7 := by omega
      clear hg7
      have W7 : Hid (∃ cs, Row w7 w.heap.size 5 cs ∧ cs.size = bn + 4 ∧ (∀ i, i < bn → ∃ z : Int, cs[i]? = some (.int .u8 z))) :=
        ⟨_, T7.out, by have := HZ.out; simp [bv_length, this], fun i hi => ⟨zs.getD i 0, by
          have hi' : i < zs.length := by rw [HZ.out]; exact hi
          simp only [List.getElem?_toArray]
          rw [bv, List.map_append, List.getElem?_append_left (by simpa using hi')]
          exact bv_get zs i hi'⟩⟩
      clear T7
      go_loopw [11] (fun i wr => ∃ k : Nat, k ≤ bn ∧ i = .int .i64 k ∧ Hid ((∃ cs, Row wr w.heap.size 5 cs ∧ cs.size = bn + 4 ∧ (∀ i, i < bn → ∃ z : Int, cs[i]? = some (.int .u8 z))) ∧ w7.grownBy wr (some w.heap.size))) (fun i _ => bn - (intOf i).toNat)
      case atStart => exact ⟨0, Nat.zero_le _, rfl, W7.out, World.grownBy.refl _ _⟩
      case round =>
        obtain ⟨k, hk, rfl, hH⟩ := hrel
        by_cases hkb : k < bn
        · obtain ⟨⟨cs, hr, hs, hi⟩, hg⟩ := hH.out
          obtain ⟨z, hz⟩ := hi k hkb
          have c0 : wr.cell? ⟨w.heap.size, k, none⟩ = some (.int .u8 z) := by rw [hr.cell, hz]
          have f0 := hr.frozen k
          have hN : ∀ u : Int, Hid ((∃ cs, Row (wr.setCell ⟨w.heap.size, k, none⟩ (.int .u8 u)) w.heap.size 5 cs ∧ cs.size = bn + 4 ∧ (∀ i, i < bn → ∃ z : Int, cs[i]? = some (.int .u8 z))) ∧ w7.grownBy (wr.setCell ⟨w.heap.size, k, none⟩ (.int .u8 u)) (some w.heap.size)) := fun u => by
            refine ⟨⟨_, hr.set k (.int .u8 u), by simpa using hs, fun i hib => ?_⟩, gb_trans hg (gb_set _ _ _ _)⟩
            by_cases hik : k = i
            · subst hik
              exact ⟨u, by rw [Array.getElem?_setIfInBounds, if_pos rfl, if_pos (by omega)]⟩
            · obtain ⟨z', hz'⟩ := hi i hib
              exact ⟨z', by rw [Array.getElem?_setIfInBounds_ne hik, hz']⟩
          have HN := veil hN
          clear hN hr hs hi hg hz hH
          go_wp2_with fail
          go_roundw
          case rel => exact ⟨k + 1, by omega, by go_num, HN.out _⟩
          case measure => simp [intOf]; omega
        · obtain ⟨⟨cs, hr, hs, _⟩, hg⟩ := hH.out
          have hrT := W7.out
          obtain ⟨cs7, hr7, _, _⟩ := hrT
          have hne : ∀ x, x ≠ w.heap.size → some x ≠ some w.heap.size := fun x hx e => by injection e with e; exact hx e
          have b8 : Below w.heap.size w wr := below_gb b7 hg b7.size (Nat.le_refl _)
          have C8 : Hid (Cut wr g7 d7 0 zs.length zs) := ⟨C7.out.row.gb hg (hne g7 (by omega)), C7.out.rd.gb hg (fun a ha => by injection ha with ha; subst ha; exact hne d7 (by omega)), C7.out.cap, C7.out.byt, C7.out.ne⟩
          have D8 := veil (Row.gb D7.out hg (hne d7 (by omega)))
          have R8 := veil (Row.gb R7.out hg (hne d (by have := HLT.out; have := HG.out; omega)))
          have K8 := veil (K7.out.gb hg hr7 (by decide) (by decide))
          have T8 : Hid (Row wr w.heap.size 5 cs ∧ cs.size = bn + 4) := ⟨hr, hs⟩
          have s8 : kb ≤ wr.heap.size := Nat.le_trans k7 hg.size
          have HRS := C8.out.rest_
          rw [HZ.out] at HRS
          have HRS := veil HRS
          clear hr hs hg hH hr7 W7 C7 D7 R7 K7 b7 hne
          go_wp2_with fail
          refine (HRS.out).mono ?_
          rintro e w9 ⟨rfl, hg9, _⟩
          have h9 : ∀ x cs', Row wr x 5 cs' → Row w9 x 5 cs' := fun x cs' hx => Fr.of_gb hg9 C8.out.row _ _ _ hx (by decide)
          have b9 : Below w.heap.size w w9 := below_gb b8 hg9 b8.size (by omega)
          have D9 := veil (h9 _ _ D8.out)
          have R9 := veil (h9 _ _ R8.out)
          have T9 : Hid (Row w9 w.heap.size 5 cs ∧ cs.size = bn + 4) := ⟨h9 _ _ T8.out.1, T8.out.2⟩
          have K9 := veil (K8.out.gb hg9 C8.out.row (by decide) (by decide))
          have s9 : kb ≤ w9.heap.size := Nat.le_trans s8 hg9.size
          have rd9 : Rd w9 (some ⟨d7, 0, none⟩) zs := rd_row D9.out (fun j hj => by rw [Nat.zero_add]; exact bv_get _ j hj)
          have rb9 := (slc_rd (HS.out.keep b9)).1
          have HRD9 := veil (And.intro rd9 rb9)
          clear hg9 h9 b8 D8 R8 T8 K8 C8 s8 HRS rd9 rb9
          go_wp2_with fail
          refine (sameBytes_eq _ _ bn bn bc zs w9 HZ.out (by unfold maxLen; omega) HRD9.out.1 HRD9.out.2).mono ?_
          rintro e w10 ⟨rfl, hw10⟩
          have q10 := below_still (Below.refl w9.heap.size w9) hw10
          have D10 := veil (D9.out.keep q10)
          have R10 := veil (R9.out.keep q10)
          have T10 : Hid (Row w10 w.heap.size 5 cs ∧ cs.size = bn + 4) := ⟨T9.out.1.keep q10, T9.out.2⟩
          have K10 := veil (K9.out.keep q10)
          have b10 := b9.trans (q10.mono b9.size)
          have s10 : kb ≤ w10.heap.size := Nat.le_trans s9 q10.size
          clear hw10 q10 D9 R9 T9 K9 b9 s9 HRD9
          go_wp2_with fail
          refine (note_any w10 kb kb Ls _ _ _ K10.out (by have := HLL.out; omega) s10).mono ?_
          rintro e w11 ⟨rfl, ⟨x11, y11, hk11⟩, hf11⟩
          have D11 := veil (hf11.row D10.out)
          have R11 := veil (hf11.row R10.out)
          have T11 : Hid (Row w11 w.heap.size 5 cs ∧ cs.size = bn + 4) := ⟨hf11.row T10.out.1, T10.out.2⟩
          have K11 := veil hk11
          have b11 := b10.trans (hf11.1.mono HLT.out.2.2.1)
          have s11 : kb ≤ w11.heap.size := Nat.le_trans s10 hf11.1.size
          clear hk11 hf11 D10 R10 T10 K10 b10 s10
          go_wp2_with fail
          refine (note_any w11 kb kb _ _ _ _ K11.out (by have := HLL.out; simp; omega) s11).mono ?_
          rintro e w12 ⟨rfl, ⟨x12, y12, hk12⟩, hf12⟩
          have D12 := veil (hf12.row D11.out)
          have R12 := veil (hf12.row R11.out)
          have T12 : Hid (Row w12 w.heap.size 5 cs ∧ cs.size = bn + 4) := ⟨hf12.row T11.out.1, T11.out.2⟩
          have K12 := veil hk12
          have b12 := b11.trans (hf12.1.mono HLT.out.2.2.1)
          clear hk12 hf12 D11 R11 T11 K11 b11 s11
          have hAp : Hid (Calls Try.prog 20 #[.pointer (some ⟨kb, 0, none⟩)] w12 fun e w' => e = .returned (.bool true) ∧ Below w.heap.size w w') := by
            have hcase := two_more Ls ⟨some ⟨d7, 0, none⟩, bn, bn, x11, y11⟩ ⟨some ⟨w.heap.size, 0, none⟩, bn, bn + 4, x12, y12⟩
            have hlv := HLV.out
            have hz := HZ.out
            have hd : w.heap.size < d := by omega
            have hdd : d ≠ d7 := by omega
            refine apart_any w.heap.size w w12 kb kb _ K12.out (by have := HLL.out; simp; omega) b12 b12.size ?_ ?_ ?_
            · intro i M hM
              rcases hcase i M hM with ⟨hM, _⟩ | ⟨_, rfl⟩ | ⟨_, rfl⟩
              · obtain ⟨h1, h2, h3⟩ := hlv.1 i M hM
                refine ⟨h1, h2, fun h0 => ?_⟩
                rcases h3 with h3 | ⟨o, e, ho⟩
                · omega
                · exact ⟨d, o, _, e, R12.out, by have := HP5.out; simp [bv_length]; omega⟩
              · exact ⟨Nat.le_refl _, by simp; omega, fun _ => ⟨d7, 0, _, rfl, D12.out, by simp [bv_length, hz]⟩⟩
              · exact ⟨by simp, by simp; omega, fun _ => ⟨w.heap.size, 0, _, rfl, T12.out.1, by rw [T12.out.2]; simp⟩⟩
            · intro i j M N hM hN hij b o o' e1 e2
              rcases hcase i M hM with ⟨hM, _⟩ | ⟨hi, rfl⟩ | ⟨hi, rfl⟩ <;> rcases hcase j N hN with ⟨hN, _⟩ | ⟨hj, rfl⟩ | ⟨hj, rfl⟩
              · exact hlv.2.2 i j M N hM hN hij b o o' e1 e2
              · exfalso
                have h1 := hlv.2.1 i M _ hM e1
                injection e2 with e2
                injection e2 with e2
                simp only at h1
                omega
              · exfalso
                have h1 := hlv.2.1 i M _ hM e1
                injection e2 with e2
                injection e2 with e2
                simp only at h1
                omega
              · exfalso
                have h1 := hlv.2.1 j N _ hN e2
                injection e1 with e1
                injection e1 with e1
                simp only at h1
                omega
              · omega
              · exfalso
                injection e1 with e1
                injection e1 with e1
                injection e2 with e2
                injection e2 with e2
                omega
              · exfalso
                have h1 := hlv.2.1 j N _ hN e2
                injection e1 with e1
                injection e1 with e1
                simp only at h1
                omega
              · exfalso
                injection e1 with e1
                injection e1 with e1
                injection e2 with e2
                injection e2 with e2
                omega
              · omega
            · intro i M a hM ha
              rcases hcase i M hM with ⟨hM, _⟩ | ⟨_, rfl⟩ | ⟨_, rfl⟩
              · rw [hlv.2.1 i M a hM ha]
                omega
              · injection ha with ha
                subst ha
                simp only
                omega
              · injection ha with ha
                subst ha
                simp
          clear D12 R12 T12 K12 b12
          go_wp2_with fail
          refine (hAp.out).mono ?_
          rintro e w13 ⟨rfl, b13⟩
          clear hAp
          go_wp2_with fail
          refine (lives_true _).mono ?_
          rintro e w14 ⟨rfl, hw14⟩
          go_wp2_with fail
          go_ret
          exact ⟨rfl, b13.trans (hw14.mono b13.size)⟩

end Go.Proofs.Ytddmjenhpbbocaa.octetsCut
