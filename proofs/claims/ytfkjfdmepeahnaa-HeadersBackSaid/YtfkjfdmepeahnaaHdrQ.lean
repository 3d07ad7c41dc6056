/-
  A header's options, by the document's answer: whatever bytes there are.
  Conditions: two bytes at least, 16777216 at most.
-/
import Derived.Test.YtfkjfdmepeahnaaHdrO
namespace Go.Proofs.Ytfkjfdmepeahnaa.Hd
set_option maxRecDepth 100000
open Go.RowKit

/-- what the options from place j on come to -/
structure OptsTo (zs : List Int) (p : Int) (hop mc : Bool) (R : Tl) (j : Nat) (al : Bool) : Prop where
  is : opts zs p hop mc j al = R

set_option maxRecDepth 100000 in
set_option maxHeartbeats 8000000 in
theorem options_any (A : Option Addr) (m c : Nat) (zs : List Int) (p : Int) (hop mc : Bool) (w : World) (hl : zs.length = m) (h2 : 2 ≤ m) (hm : m ≤ 16777216) (hzs : Byt zs) (hr : Rd w A zs) (hp : 0 ≤ p ∧ p + m < 18446744073709551616) :
    Calls Try.prog 48 #[.slice A m c, .int .u64 p, .bool hop, .bool mc] w fun e w' => e = .returned (tv (opts zs p hop mc 2 false) nilV) ∧ Below w.heap.size w w' := by
  obtain ⟨R, hR⟩ : ∃ R, opts zs p hop mc 2 false = R := ⟨_, rfl⟩
  rw [hR]
  obtain ⟨Z, hZ⟩ : ∃ Z, Z = zt := ⟨_, rfl⟩
  have hz : Hid (Z.toList.length = 10) := by rw [hZ]; exact rfl
  have Y := ((Lay.begin w).newA Z 54 (g := w.heap.size) rfl).newA Z 54 (g := w.heap.size + 1) (by simp)
  have T := veil (told_store (t := {}) (v := nilV) Y mem0 hz.out rfl)
  have Y1 := veil (Y.put 0 rfl (tc {} nilV))
  simp only [List.set_cons_zero] at Y1
  have B := veil made_none
  obtain ⟨u1, hu⟩ : ∃ u, ((w.alloc (.cells Z 54)).alloc (.cells Z 54)).setRow (w.heap.size + 1) (tc {} nilV).toArray = u := ⟨_, rfl⟩
  rw [hu] at T Y1
  have HL := veil hl
  have HB := veil hzs
  have HR := veil hr
  have HP := veil hp
  have VR := veil hR
  have e0 : ({} : Tl) = { alert := false } := rfl
  rw [e0] at T Y1 B
  clear Y hu hl hzs hr hp hR e0
  generalize Z.toList = ZL at *
  unfold zt at hZ
  subst hZ
  go_enter Try.func48, Try.ntmps48
  go_wp2_with (first
    | (refine wpList_build_of rfl _ _ rfl _ (by simp [Act.eval]) (B.out _) ?_)
    | (refine wpList_store_of rfl _ _ rfl rfl rfl T.out ?_))
  clear T B
  go_loopw [10] (fun i wr => ∃ (j : Nat) (al : Bool), j ≤ m ∧ i = .int .i64 j ∧ Hid (OptsTo zs p hop mc R j al) ∧ Hid (Lay w wr [(w.heap.size + 1, 54, tc { alert := al } nilV), (w.heap.size, 54, ZL)])) (fun i _ => m - (intOf i).toNat)
  case atStart => exact ⟨2, false, h2, rfl, ⟨VR.out⟩, Y1⟩
  case round =>
    obtain ⟨j, al, hj, rfl, hO, VY⟩ := hrel
    clear VR Y1
    rcases (by omega : j = m ∨ j < m) with e | hlt
    · have hR2 : Hid (({ alert := al } : Tl) = R) := by
        have := hO.out.is
        rw [opts, if_pos (by rw [HL.out]; omega)] at this
        exact this
      have ij : ¬ (j : Int) < (m : Int) := by omega
      have L := veil (told_load VY.out mem0)
      have T := veil (told_store (t := { alert := al }) (v := nilV) VY.out mem1 hz.out rfl)
      have Y1 := veil (VY.out.put 1 rfl (tc { alert := al } nilV))
      simp only [List.set_cons_succ, List.set_cons_zero] at Y1
      generalize ({ alert := al } : Tl) = te at *
      go_wp2_with (first
        | (refine wpList_load_of rfl _ rfl rfl L.out ?_)
        | (refine wpList_store_of rfl _ _ rfl rfl rfl T.out ?_))
      refine bodyPost_ret (told_ret Y1.out mem1 rfl rfl) rfl ?_
      exact ⟨by rw [← hR2.out], Y1.out.below⟩
    · have ij : (j : Int) < (m : Int) := by omega
      have bx := HB.out.at_ j
      have hO2 := hO.out.is
      rw [opts, if_neg (by rw [HL.out]; omega)] at hO2
      obtain ⟨a, rfl, ca⟩ := HR.out.keep VY.out.below j (by rw [HL.out]; exact hlt)
      generalize hx : zs.getD j 0 = x at *
      replace hx := veil hx
      clear hO
      by_cases hx0 : x = 0
      · subst hx0
        rw [if_pos rfl] at hO2
        have hR2 := veil (OptsTo.mk hO2)
        have VY2 := VY
        have i0 : (m : Int) ≤ 16777216 := by omega
        clear hO2 VY hx bx
        go_wp2_with fail
        go_roundw
        case rel => exact ⟨j + 1, al, by omega, by go_num, hR2.out, VY2.out⟩
        case measure => simp [intOf]; omega
      · rw [if_neg hx0] at hO2
        have fx0 : (x == 0) = false := by simpa using hx0
        rcases (by omega : m ≤ j + 1 ∨ j + 1 < m) with h1 | h1
        · rw [if_pos (by rw [HL.out]; exact h1)] at hO2
          have hR2 := veil hO2
          clear hO2
          have i1 : (m : Int) ≤ (j : Int) + 1 := by omega
          have T := veil (told_store (t := errT 4) (v := nilV) VY.out mem1 hz.out rfl)
          have Y1 := veil (VY.out.put 1 rfl (tc (errT 4) nilV))
          simp only [List.set_cons_succ, List.set_cons_zero] at Y1
          have B := veil (fun u => made_err 4 u)
          generalize errT 4 = te at *
          go_wp2_with (first
            | (refine wpList_build_of rfl _ _ rfl _ (by simp [Act.eval]) (B.out _) ?_)
            | (refine wpList_store_of rfl _ _ rfl rfl rfl T.out ?_))
          refine bodyPost_ret (told_ret Y1.out mem1 rfl rfl) rfl ?_
          exact ⟨by rw [← hR2.out], Y1.out.below⟩
        · rw [if_neg (by rw [HL.out]; omega)] at hO2
          have i1 : ¬ (m : Int) ≤ (j : Int) + 1 := by omega
          have i2 : (j : Int) + 1 < (m : Int) := by omega
          have hby := HB.out.at_ (j + 1)
          obtain ⟨_, e1, cb⟩ := HR.out.keep VY.out.below (j + 1) (by rw [HL.out]; exact h1)
          injection e1 with e1
          subst e1
          replace cb : wr.cell? ⟨a.block, a.off + (j + 1), none⟩ = some (.int .u8 (zs.getD (j + 1) 0)) := cb
          generalize hy : zs.getD (j + 1) 0 = y at *
          obtain ⟨y, rfl⟩ := Int.eq_ofNat_of_zero_le hby.1
          clear hy
          simp only [Int.toNat_natCast] at hO2
          obtain ⟨en, hen⟩ : ∃ en, j + 2 + y = en := ⟨_, rfl⟩
          rw [hen] at hO2
          have een : (j : Int) + 2 + (y : Int) = (en : Int) := by omega
          have hgt : j < en := by omega
          rcases (by omega : m < en ∨ en ≤ m) with h3 | h3
          · rw [if_pos (by rw [HL.out]; exact h3)] at hO2
            have hR2 := veil hO2
            have i3 : (m : Int) < (en : Int) := by omega
            clear hO2 hen
            have T := veil (told_store (t := errT 4) (v := nilV) VY.out mem1 hz.out rfl)
            have Y1 := veil (VY.out.put 1 rfl (tc (errT 4) nilV))
            simp only [List.set_cons_succ, List.set_cons_zero] at Y1
            have B := veil (fun u => made_err 4 u)
            generalize errT 4 = te at *
            go_wp2_with (first
              | (refine wpList_build_of rfl _ _ rfl _ (by simp [Act.eval]) (B.out _) ?_)
              | (refine wpList_store_of rfl _ _ rfl rfl rfl T.out ?_))
            refine bodyPost_ret (told_ret Y1.out mem1 rfl rfl) rfl ?_
            exact ⟨by rw [← hR2.out], Y1.out.below⟩
          · rw [if_neg (by rw [HL.out]; omega)] at hO2
            have i3 : ¬ (m : Int) < (en : Int) := by omega
            have c2 := VY.out.look (o := 2) mem0 rfl
            have f2 := VY.out.free mem0 2
            clear hen
            by_cases hx1 : x = 1
            · subst hx1
              rw [if_pos rfl] at hO2
              have hR2 := veil (OptsTo.mk hO2)
              have VY2 := VY
              clear hO2 VY
              go_wp2_with fail
              go_roundw
              case rel => exact ⟨en, al, by omega, by go_num, hR2.out, VY2.out⟩
              case measure => simp [intOf]; omega
            · rw [if_neg hx1] at hO2
              have fx1 : (x == 1) = false := by simpa using hx1
              cases hop with
              | false =>
                rw [if_neg (by simp)] at hO2
                rcases (by omega : x < 64 ∨ (¬ x < 64 ∧ x < 128) ∨ (¬ x < 128 ∧ ¬ 192 ≤ x) ∨ 192 ≤ x) with h4 | ⟨h4, h5⟩ | ⟨h5, h6⟩ | h6
                · rw [if_pos h4] at hO2
                  have hR2 := veil (OptsTo.mk hO2)
                  have VY2 := VY
                  clear hO2 VY
                  go_wp2_with fail
                  go_roundw
                  case rel => exact ⟨en, al, by omega, by go_num, hR2.out, VY2.out⟩
                  case measure => simp [intOf]; omega
                · rw [if_neg h4, if_pos h5] at hO2
                  have hR2 := veil hO2
                  clear hO2
                  have T := veil (told_store (t := errT 8) (v := nilV) VY.out mem1 hz.out rfl)
                  have Y1 := veil (VY.out.put 1 rfl (tc (errT 8) nilV))
                  simp only [List.set_cons_succ, List.set_cons_zero] at Y1
                  have B := veil (fun u => made_err 8 u)
                  generalize errT 8 = te at *
                  go_wp2_with (first
                    | (refine wpList_build_of rfl _ _ rfl _ (by simp [Act.eval]) (B.out _) ?_)
                    | (refine wpList_store_of rfl _ _ rfl rfl rfl T.out ?_))
                  refine bodyPost_ret (told_ret Y1.out mem1 rfl rfl) rfl ?_
                  exact ⟨by rw [← hR2.out], Y1.out.below⟩
                · have h4 : ¬ x < 64 := by omega
                  rw [if_neg h4, if_neg h5, if_neg (by omega)] at hO2
                  have hR2 := veil hO2
                  have K := veil (fun u => faulty_any 2 (p + j) al u (by have := HP.out; omega))
                  have hwj : (j : Int) % 18446744073709551616 = (j : Int) := by omega
                  have hwp : (p + (j : Int)) % 18446744073709551616 = p + (j : Int) := by have := HP.out; omega
                  clear hO2
                  go_wp2_with fail
                  refine (K.out _).mono ?_
                  rintro e w2 ⟨rfl, q⟩
                  have Y1 := VY.out.keep q
                  have T := veil (told_store (t := faulT 2 (p + j) al) (v := nilV) Y1 mem1 hz.out rfl)
                  have Y2 := veil (Y1.put 1 rfl (tc (faulT 2 (p + j) al) nilV))
                  simp only [List.set_cons_succ, List.set_cons_zero] at Y2
                  clear q Y1 K
                  generalize faulT 2 (p + j) al = te at *
                  go_wp2_with (refine wpList_store_of rfl _ _ rfl rfl rfl T.out ?_)
                  refine bodyPost_ret (told_ret Y2.out mem1 rfl rfl) rfl ?_
                  exact ⟨by rw [← hR2.out], Y2.out.below⟩
                · have h4 : ¬ x < 64 := by omega
                  have h5 : ¬ x < 128 := by omega
                  rw [if_neg h4, if_neg h5] at hO2
                  cases mc with
                  | true =>
                    rw [if_pos ⟨h6, rfl⟩] at hO2
                    have hR2 := veil hO2
                    clear hO2
                    have T := veil (told_store (t := errT 8) (v := nilV) VY.out mem1 hz.out rfl)
                    have Y1 := veil (VY.out.put 1 rfl (tc (errT 8) nilV))
                    simp only [List.set_cons_succ, List.set_cons_zero] at Y1
                    have B := veil (fun u => made_err 8 u)
                    generalize errT 8 = te at *
                    go_wp2_with (first
                      | (refine wpList_build_of rfl _ _ rfl _ (by simp [Act.eval]) (B.out _) ?_)
                      | (refine wpList_store_of rfl _ _ rfl rfl rfl T.out ?_))
                    refine bodyPost_ret (told_ret Y1.out mem1 rfl rfl) rfl ?_
                    exact ⟨by rw [← hR2.out], Y1.out.below⟩
                  | false =>
                    rw [if_neg (by simp)] at hO2
                    have hR2 := veil hO2
                    have K := veil (fun u => faulty_any 2 (p + j) al u (by have := HP.out; omega))
                    have hwj : (j : Int) % 18446744073709551616 = (j : Int) := by omega
                    have hwp : (p + (j : Int)) % 18446744073709551616 = p + (j : Int) := by have := HP.out; omega
                    clear hO2
                    go_wp2_with fail
                    refine (K.out _).mono ?_
                    rintro e w2 ⟨rfl, q⟩
                    have Y1 := VY.out.keep q
                    have T := veil (told_store (t := faulT 2 (p + j) al) (v := nilV) Y1 mem1 hz.out rfl)
                    have Y2 := veil (Y1.put 1 rfl (tc (faulT 2 (p + j) al) nilV))
                    simp only [List.set_cons_succ, List.set_cons_zero] at Y2
                    clear q Y1 K
                    generalize faulT 2 (p + j) al = te at *
                    go_wp2_with (refine wpList_store_of rfl _ _ rfl rfl rfl T.out ?_)
                    refine bodyPost_ret (told_ret Y2.out mem1 rfl rfl) rfl ?_
                    exact ⟨by rw [← hR2.out], Y2.out.below⟩
              | true =>
                by_cases hx5 : x = 5
                · subst hx5
                  by_cases hy2 : (y : Int) = 2
                  · rw [if_pos ⟨rfl, rfl, hy2⟩] at hO2
                    have hR2 := veil (OptsTo.mk hO2)
                    have fy : ((y : Int) == 2) = true := by simpa using hy2
                    have VY2 := veil (show Lay w (wr.setCell ⟨w.heap.size + 1, 2, none⟩ (.bool true)) [(w.heap.size + 1, 54, tc { alert := true } nilV), (w.heap.size, 54, ZL)] from VY.out.cell 0 rfl 2 (.bool true))
                    clear hO2 VY
                    go_wp2_with fail
                    go_roundw
                    case rel => exact ⟨en, true, by omega, by go_num, hR2.out, VY2.out⟩
                    case measure => simp [intOf]; omega
                  · rw [if_neg (by simp [hy2])] at hO2
                    have fy : ((y : Int) == 2) = false := by simpa using hy2
                    rw [if_pos (by omega)] at hO2
                    have hR2 := veil (OptsTo.mk hO2)
                    have VY2 := VY
                    clear hO2 VY
                    go_wp2_with fail
                    go_roundw
                    case rel => exact ⟨en, al, by omega, by go_num, hR2.out, VY2.out⟩
                    case measure => simp [intOf]; omega
                · rw [if_neg (by simp [hx5])] at hO2
                  have fx5 : (x == 5) = false := by simpa using hx5
                  rcases (by omega : x < 64 ∨ (¬ x < 64 ∧ x < 128) ∨ (¬ x < 128 ∧ ¬ 192 ≤ x) ∨ 192 ≤ x) with h4 | ⟨h4, h5⟩ | ⟨h5, h6⟩ | h6
                  · rw [if_pos h4] at hO2
                    have hR2 := veil (OptsTo.mk hO2)
                    have VY2 := VY
                    clear hO2 VY
                    go_wp2_with fail
                    go_roundw
                    case rel => exact ⟨en, al, by omega, by go_num, hR2.out, VY2.out⟩
                    case measure => simp [intOf]; omega
                  · rw [if_neg h4, if_pos h5] at hO2
                    have hR2 := veil hO2
                    clear hO2
                    have T := veil (told_store (t := errT 8) (v := nilV) VY.out mem1 hz.out rfl)
                    have Y1 := veil (VY.out.put 1 rfl (tc (errT 8) nilV))
                    simp only [List.set_cons_succ, List.set_cons_zero] at Y1
                    have B := veil (fun u => made_err 8 u)
                    generalize errT 8 = te at *
                    go_wp2_with (first
                      | (refine wpList_build_of rfl _ _ rfl _ (by simp [Act.eval]) (B.out _) ?_)
                      | (refine wpList_store_of rfl _ _ rfl rfl rfl T.out ?_))
                    refine bodyPost_ret (told_ret Y1.out mem1 rfl rfl) rfl ?_
                    exact ⟨by rw [← hR2.out], Y1.out.below⟩
                  · have h4 : ¬ x < 64 := by omega
                    rw [if_neg h4, if_neg h5, if_neg (by omega)] at hO2
                    have hR2 := veil hO2
                    have K := veil (fun u => faulty_any 2 (p + j) al u (by have := HP.out; omega))
                    have hwj : (j : Int) % 18446744073709551616 = (j : Int) := by omega
                    have hwp : (p + (j : Int)) % 18446744073709551616 = p + (j : Int) := by have := HP.out; omega
                    clear hO2
                    go_wp2_with fail
                    refine (K.out _).mono ?_
                    rintro e w2 ⟨rfl, q⟩
                    have Y1 := VY.out.keep q
                    have T := veil (told_store (t := faulT 2 (p + j) al) (v := nilV) Y1 mem1 hz.out rfl)
                    have Y2 := veil (Y1.put 1 rfl (tc (faulT 2 (p + j) al) nilV))
                    simp only [List.set_cons_succ, List.set_cons_zero] at Y2
                    clear q Y1 K
                    generalize faulT 2 (p + j) al = te at *
                    go_wp2_with (refine wpList_store_of rfl _ _ rfl rfl rfl T.out ?_)
                    refine bodyPost_ret (told_ret Y2.out mem1 rfl rfl) rfl ?_
                    exact ⟨by rw [← hR2.out], Y2.out.below⟩
                  · have h4 : ¬ x < 64 := by omega
                    have h5 : ¬ x < 128 := by omega
                    rw [if_neg h4, if_neg h5] at hO2
                    cases mc with
                    | true =>
                      rw [if_pos ⟨h6, rfl⟩] at hO2
                      have hR2 := veil hO2
                      clear hO2
                      have T := veil (told_store (t := errT 8) (v := nilV) VY.out mem1 hz.out rfl)
                      have Y1 := veil (VY.out.put 1 rfl (tc (errT 8) nilV))
                      simp only [List.set_cons_succ, List.set_cons_zero] at Y1
                      have B := veil (fun u => made_err 8 u)
                      generalize errT 8 = te at *
                      go_wp2_with (first
                        | (refine wpList_build_of rfl _ _ rfl _ (by simp [Act.eval]) (B.out _) ?_)
                        | (refine wpList_store_of rfl _ _ rfl rfl rfl T.out ?_))
                      refine bodyPost_ret (told_ret Y1.out mem1 rfl rfl) rfl ?_
                      exact ⟨by rw [← hR2.out], Y1.out.below⟩
                    | false =>
                      rw [if_neg (by simp)] at hO2
                      have hR2 := veil hO2
                      have K := veil (fun u => faulty_any 2 (p + j) al u (by have := HP.out; omega))
                      have hwj : (j : Int) % 18446744073709551616 = (j : Int) := by omega
                      have hwp : (p + (j : Int)) % 18446744073709551616 = p + (j : Int) := by have := HP.out; omega
                      clear hO2
                      go_wp2_with fail
                      refine (K.out _).mono ?_
                      rintro e w2 ⟨rfl, q⟩
                      have Y1 := VY.out.keep q
                      have T := veil (told_store (t := faulT 2 (p + j) al) (v := nilV) Y1 mem1 hz.out rfl)
                      have Y2 := veil (Y1.put 1 rfl (tc (faulT 2 (p + j) al) nilV))
                      simp only [List.set_cons_succ, List.set_cons_zero] at Y2
                      clear q Y1 K
                      generalize faulT 2 (p + j) al = te at *
                      go_wp2_with (refine wpList_store_of rfl _ _ rfl rfl rfl T.out ?_)
                      refine bodyPost_ret (told_ret Y2.out mem1 rfl rfl) rfl ?_
                      exact ⟨by rw [← hR2.out], Y2.out.below⟩

end Go.Proofs.Ytfkjfdmepeahnaa.Hd
