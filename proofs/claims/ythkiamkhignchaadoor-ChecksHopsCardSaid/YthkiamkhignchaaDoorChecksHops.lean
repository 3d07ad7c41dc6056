/-
  ChecksHops: whoever comes from beyond the link, or has another code, counts for nothing with neighbors and listeners, whatever else is asked of them; other kinds always count: the law returns true for every input, and its arguments read as before.
  Conditions: none.
-/
import Derived.Test.YthkiamkhignchaaDoorChkPQ
import Derived.Test.YthkiamkhignchaaDoorTie
import Derived.Test.YthkiamkhignchaaDoorCards
import Derived.SevenTiedAt
import Derived.Deep.CutRange
namespace Go.Proofs.YthkiamkhignchaaDoor.checksHops
set_option maxRecDepth 100000
open Go.ChangeShapes Go.WideShapes Go.ChangeAt Go.RowKit Ops Mg Ck
open Hd hiding nilV
open Ad (Knw kn kn_len kn_ok Ok mult ll sol laid1 knw_of_laid door_met)

set_option maxHeartbeats 4000000 in
theorem walk_more (k : Pk) (A : Option Addr) (n c : Nat) (m : Ms) (z0 z1 : Int) (w : World) (hk : Knw w) (he : Hd.Ends k) (h : 6000 < n) : Calls Tryd.prog 4 #[pv k (.slice A n c), mv m, .agg #[.int .u8 z0, .int .u8 z1]] w fun e w' => e = .returned (.bool true) ∧ Below w.heap.size w w' := by
  have M := veil (((Kw.begin hk).new (pc k (.slice A n c)) 30 rfl).new (mc m) 35 (g := w.heap.size + 1) (by simp) |>.new [.int .u8 z0, .int .u8 z1] 43 (g := w.heap.size + 1 + 1) (by simp))
  have c39 := (pktAt M.out.lay (List.mem_cons_of_mem _ (List.mem_cons_of_mem _ List.mem_cons_self)) he).body
  have in1 : (6000 : Int) < (n : Int) := by omega
  clear hk he h
  go_enter Tryd.func4, Tryd.ntmps4
  go_wp2_with fail
  refine (lives_true _ M.out.knw).mono ?_
  rintro e w1 ⟨rfl, q⟩
  have M := veil (M.out.keep q)
  clear q c39
  go_wp2_with fail
  go_ret
  exact ⟨rfl, M.out.below⟩

set_option linter.unusedSimpArgs false in
set_option maxHeartbeats 8000000 in
theorem walk_great (k : Pk) (A : Option Addr) (n c : Nat) (m : Ms) (zs : List Int) (os : List (Int × List Int)) (az : List (List Int)) (rs : List Rc) (z0 z1 : Int) (w : World) (hk : Knw w) (G : Gd k m) (HI : MsIn w m zs os az rs) (hn : ¬ 6000 < n) (hg : great zs os az rs = true) : Calls Tryd.prog 4 #[pv k (.slice A n c), mv m, .agg #[.int .u8 z0, .int .u8 z1]] w fun e w' => e = .returned (.bool true) ∧ Below w.heap.size w w' := by
  have M0 := (two_new hk k (.slice A n c) m).new [.int .u8 z0, .int .u8 z1] 43 (g := w.heap.size + 1 + 1) (by simp)
  have HI1 := veil (MsIn.keep HI M0.below)
  have HO := veil (op1_of HI)
  have c39 := (pktAt M0.lay (List.mem_cons_of_mem _ (List.mem_cons_of_mem _ List.mem_cons_self)) G.ends).body
  have VL := veil (msgAt M0.lay (List.mem_cons_of_mem _ List.mem_cons_self) G.f).all
  have M := veil M0
  have VG := veil G
  have in1 : ¬ (6000 : Int) < (n : Int) := by omega
  have HG := veil hg
  clear M0 HI hn hk G hg
  go_enter Tryd.func4, Tryd.ntmps4
  go_wp2_with (refine wpList_load_of rfl (.tmp 4) rfl rfl VL.out ?_; (try simp only [Act.put, List.setIfInBounds_toArray, List.set_cons_zero, List.set_cons_succ]))
  clear c39 VL
  generalize ((w.alloc (.cells (pc k (.slice A n c)).toArray 30)).alloc (.cells (mc m).toArray 35)).alloc (.cells #[.int .u8 z0, .int .u8 z1] 43) = wb at *
  refine (greatM_any m zs os az rs _ HI1.out).mono ?_
  rintro e w1 ⟨rfl, q⟩
  have M := veil (M.out.keep q)
  clear q HI1
  rw [HG.out]
  go_wp2_with fail
  refine (lives_true _ M.out.knw).mono ?_
  rintro e w2 ⟨rfl, q⟩
  have M := veil (M.out.keep q)
  clear q
  go_wp2_with fail
  go_ret
  exact ⟨rfl, M.out.below⟩

set_option linter.unusedSimpArgs false in
set_option maxHeartbeats 8000000 in
theorem walk_other (k : Pk) (A : Option Addr) (n c : Nat) (m : Ms) (zs : List Int) (os : List (Int × List Int)) (az : List (List Int)) (rs : List Rc) (z0 z1 : Int) (w : World) (hk : Knw w) (G : Gd k m) (HI : MsIn w m zs os az rs) (hn : ¬ 6000 < n) (hg : great zs os az rs = false) (hkn : kno m.kind = false) : Calls Tryd.prog 4 #[pv k (.slice A n c), mv m, .agg #[.int .u8 z0, .int .u8 z1]] w fun e w' => e = .returned (.bool true) ∧ Below w.heap.size w w' := by
  have M0 := (two_new hk k (.slice A n c) m).new [.int .u8 z0, .int .u8 z1] 43 (g := w.heap.size + 1 + 1) (by simp)
  have HI1 := veil (MsIn.keep HI M0.below)
  have HO := veil (op1_of HI)
  have c39 := (pktAt M0.lay (List.mem_cons_of_mem _ (List.mem_cons_of_mem _ List.mem_cons_self)) G.ends).body
  have VL := veil (msgAt M0.lay (List.mem_cons_of_mem _ List.mem_cons_self) G.f).all
  have M := veil M0
  have VG := veil G
  have in1 : ¬ (6000 : Int) < (n : Int) := by omega
  have HG := veil hg
  have HKN := veil hkn
  have HV := veil (kno_none (k := k) (os := os) hkn)
  clear M0 HI hn hk G hg hkn
  go_enter Tryd.func4, Tryd.ntmps4
  go_wp2_with (refine wpList_load_of rfl (.tmp 4) rfl rfl VL.out ?_; (try simp only [Act.put, List.setIfInBounds_toArray, List.set_cons_zero, List.set_cons_succ]))
  clear c39 VL
  generalize ((w.alloc (.cells (pc k (.slice A n c)).toArray 30)).alloc (.cells (mc m).toArray 35)).alloc (.cells #[.int .u8 z0, .int .u8 z1] 43) = wb at *
  refine (greatM_any m zs os az rs _ HI1.out).mono ?_
  rintro e w1 ⟨rfl, q⟩
  have M := veil (M.out.keep q)
  clear q HI1
  rw [HG.out]
  go_wp2_with (first
    | (refine wpList_load_of rfl (.tmp 4) rfl rfl (msgAt M.out.lay (List.mem_cons_of_mem _ List.mem_cons_self) VG.out.f).all ?_; (try simp only [Act.put, List.setIfInBounds_toArray, List.set_cons_zero, List.set_cons_succ])))
  refine (knows_any m _ VG.out.f).mono ?_
  rintro e w2 ⟨rfl, q⟩
  have M := veil (M.out.keep q)
  clear q
  rw [HKN.out]
  go_wp2_with (first
    | (refine wpList_load_of rfl (.tmp 3) rfl rfl (pktAt M.out.lay (List.mem_cons_of_mem _ (List.mem_cons_of_mem _ List.mem_cons_self)) VG.out.ends).all ?_; (try simp only [Act.put, List.setIfInBounds_toArray, List.set_cons_zero, List.set_cons_succ]))
    | (refine wpList_load_of rfl (.tmp 4) rfl rfl (msgAt M.out.lay (List.mem_cons_of_mem _ List.mem_cons_self) VG.out.f).all ?_; (try simp only [Act.put, List.setIfInBounds_toArray, List.set_cons_zero, List.set_cons_succ])))
  refine (codeValid k (.slice A n c) m os _ M.out.knw VG.out (HO.out.keep M.out.below)).mono ?_
  rintro e w3 ⟨rfl, q⟩
  have M := veil (M.out.keep q)
  clear q
  rw [HV.out]
  go_wp2_with fail
  refine (lives_true _ M.out.knw).mono ?_
  rintro e w4 ⟨rfl, q⟩
  have M := veil (M.out.keep q)
  clear q
  go_wp2_with fail
  go_ret
  exact ⟨rfl, M.out.below⟩

set_option linter.unusedSimpArgs false in
set_option maxHeartbeats 8000000 in
theorem walkT (k : Pk) (A : Option Addr) (n c : Nat) (m : Ms) (zs : List Int) (os : List (Int × List Int)) (az : List (List Int)) (rs : List Rc) (z0 z1 : Int) (w : World) (hk : Knw w) (G : Gd k m) (HI : MsIn w m zs os az rs) (hn : ¬ 6000 < n) (hg : great zs os az rs = false) (hkn : kno m.kind = true) (hl : lis m.kind = true) : Calls Tryd.prog 4 #[pv k (.slice A n c), mv m, .agg #[.int .u8 z0, .int .u8 z1]] w fun e w' => e = .returned (.bool true) ∧ Below w.heap.size w w' := by
  have M0 := (two_new hk k (.slice A n c) m).new [.int .u8 z0, .int .u8 z1] 43 (g := w.heap.size + 1 + 1) (by simp)
  have HI1 := veil (MsIn.keep HI M0.below)
  have HO := veil (op1_of HI)
  have c39 := (pktAt M0.lay (List.mem_cons_of_mem _ (List.mem_cons_of_mem _ List.mem_cons_self)) G.ends).body
  have VL := veil (msgAt M0.lay (List.mem_cons_of_mem _ List.mem_cons_self) G.f).all
  have M := veil M0
  have VG := veil G
  have in1 : ¬ (6000 : Int) < (n : Int) := by omega
  have HG := veil hg
  have HKN := veil hkn
  have HL := veil hl
  have HW : Hid (own m.kind = 1) := veil (own_lis hl)
  clear M0 HI hn hk G hg hkn hl
  go_enter Tryd.func4, Tryd.ntmps4
  go_wp2_with (refine wpList_load_of rfl (.tmp 4) rfl rfl VL.out ?_; (try simp only [Act.put, List.setIfInBounds_toArray, List.set_cons_zero, List.set_cons_succ]))
  clear c39 VL
  generalize ((w.alloc (.cells (pc k (.slice A n c)).toArray 30)).alloc (.cells (mc m).toArray 35)).alloc (.cells #[.int .u8 z0, .int .u8 z1] 43) = wb at *
  refine (greatM_any m zs os az rs _ HI1.out).mono ?_
  rintro e w1 ⟨rfl, q⟩
  have M := veil (M.out.keep q)
  clear q HI1
  rw [HG.out]
  go_wp2_with (first
    | (refine wpList_load_of rfl (.tmp 4) rfl rfl (msgAt M.out.lay (List.mem_cons_of_mem _ List.mem_cons_self) VG.out.f).all ?_; (try simp only [Act.put, List.setIfInBounds_toArray, List.set_cons_zero, List.set_cons_succ])))
  refine (knows_any m _ VG.out.f).mono ?_
  rintro e w2 ⟨rfl, q⟩
  have M := veil (M.out.keep q)
  clear q
  rw [HKN.out]
  go_wp2_with (first
    | (refine wpList_load_of rfl (.tmp 4) rfl rfl (msgAt M.out.lay (List.mem_cons_of_mem _ List.mem_cons_self) VG.out.f).all ?_; (try simp only [Act.put, List.setIfInBounds_toArray, List.set_cons_zero, List.set_cons_succ])))
  refine (listens_any m _ VG.out.f).mono ?_
  rintro e w3 ⟨rfl, q⟩
  have M := veil (M.out.keep q)
  clear q
  rw [HL.out]
  go_upto_region 8 with fail
  go_cut [53] from 31 to 52 (fun s wx => s = .bool false ∧ Hid (Kw w wx [(w.heap.size + 1 + 1, 43, [.int .u8 z0, .int .u8 z1]), (w.heap.size + 1, 35, mc m), (w.heap.size, 30, pc k (.slice A n c))]))
  case first =>
    go_wp2_with (first
      | (refine wpList_load_of rfl (.tmp 3) rfl rfl (pktAt M.out.lay (List.mem_cons_of_mem _ (List.mem_cons_of_mem _ List.mem_cons_self)) VG.out.ends).all ?_; (try simp only [Act.put, List.setIfInBounds_toArray, List.set_cons_zero, List.set_cons_succ]))
      | (refine wpList_load_of rfl (.tmp 4) rfl rfl (msgAt M.out.lay (List.mem_cons_of_mem _ List.mem_cons_self) VG.out.f).all ?_; (try simp only [Act.put, List.setIfInBounds_toArray, List.set_cons_zero, List.set_cons_succ])))
    refine (codeValid k (.slice A n c) m os _ M.out.knw VG.out (HO.out.keep M.out.below)).mono ?_
    rintro e w4 ⟨rfl, q⟩
    have M := veil (M.out.keep q)
    clear q
    cases hv : valid k m os with
    | false =>
      clear hv
      (try go_wp2_with fail)
      go_meet
      exact ⟨rfl, M⟩
    | true =>
      obtain ⟨e1, e2, e3⟩ := kno_some HKN.out hv
      rw [HW.out] at e1
      clear hv
      have c32 := (pktAt M.out.lay (List.mem_cons_of_mem _ (List.mem_cons_of_mem _ List.mem_cons_self)) VG.out.ends).hops
      have c1 := (msgAt M.out.lay (List.mem_cons_of_mem _ List.mem_cons_self) VG.out.f).code
      rw [e1] at c32
      rw [e2] at c1
      have E3 := veil (e3 HL.out)
      clear e1 e2 e3
      go_wp2_with (first
        | (refine wpList_load_of rfl (.tmp 4) rfl rfl (msgAt M.out.lay (List.mem_cons_of_mem _ List.mem_cons_self) VG.out.f).all ?_; (try simp only [Act.put, List.setIfInBounds_toArray, List.set_cons_zero, List.set_cons_succ])))
      clear c32 c1
      refine (listens_any m _ VG.out.f).mono ?_
      rintro e w5 ⟨rfl, q⟩
      have M := veil (M.out.keep q)
      clear q
      rw [HL.out]
      have c33 := (pktAt M.out.lay (List.mem_cons_of_mem _ (List.mem_cons_of_mem _ List.mem_cons_self)) VG.out.ends).alert
      rw [E3.out] at c33
      (try go_wp2_with fail)
      go_meet
      exact ⟨rfl, M⟩
  case rest =>
    rename World => wx
    obtain ⟨rfl, N⟩ := hcut
    clear M
    obtain ⟨ZP, hZP⟩ : ∃ Z : Array Value, Z = #[.int .u8 0, .int .u8 0, .int .u8 0, .int .u8 0, .int .u8 0, .int .u8 0, .int .u8 0, .int .u8 0, .int .u8 0, .int .u8 0, .int .u8 0, .int .u8 0, .int .u8 0, .int .u8 0, .int .u8 0, .int .u8 0, .int .u8 0, .int .u8 0, .int .u8 0, .int .u8 0, .int .u8 0, .int .u8 0, .int .u8 0, .int .u8 0, .int .u8 0, .int .u8 0, .int .u8 0, .int .u8 0, .int .u8 0, .int .u8 0, .int .u8 0, .int .u8 0, .int .u8 0, .bool false, .bool false, .int .u32 0, .int .u16 0, .bool false, .int .u8 0, .slice none 0 0] := ⟨_, rfl⟩
    obtain ⟨ZM, hZM⟩ : ∃ Z : Array Value, Z = #[.int .u8 0, .int .u8 0, .int .u32 0, .slice none 0 0, .int .u8 0, .int .u8 0, .int .u16 0, .int .u32 0, .int .u32 0, .int .u8 0, .int .u8 0, .int .u8 0, .int .u8 0, .int .u8 0, .int .u8 0, .int .u8 0, .int .u8 0, .int .u8 0, .int .u8 0, .int .u8 0, .int .u8 0, .int .u8 0, .int .u8 0, .int .u8 0, .int .u8 0, .int .u8 0, .int .u8 0, .int .u8 0, .int .u8 0, .int .u8 0, .int .u8 0, .int .u8 0, .int .u8 0, .int .u8 0, .int .u8 0, .int .u8 0, .int .u8 0, .int .u8 0, .int .u8 0, .int .u8 0, .int .u8 0, .slice none 0 0, .int .u16 0, .int .u8 0, .int .u8 0, .int .u8 0, .int .u8 0, .int .u8 0, .int .u8 0, .int .u8 0, .int .u8 0, .int .u8 0, .int .u8 0, .int .u8 0, .int .u8 0, .int .u8 0, .int .u8 0, .int .u8 0, .int .u8 0, .int .u8 0, .int .u8 0, .slice none 0 0, .slice none 0 0] := ⟨_, rfl⟩
    have sP : ZP.size = 40 := by rw [hZP]; rfl
    have sM : ZM.size = 63 := by rw [hZM]; rfl
    have VL1 := veil (pktAt N.out.lay (List.mem_cons_of_mem _ (List.mem_cons_of_mem _ List.mem_cons_self)) VG.out.ends).all
    obtain ⟨w5, S1, M1⟩ := N.out.fresh (P := Tryd.prog) ZP 30 (pc k (.slice A n c)) (by rw [sP, pc_len VG.out.ends]) (sizePkt VG.out.ends) (pc_one rfl)
    have c50 := M1.lay.look (List.mem_cons_of_mem _ List.mem_cons_self) (o := 0) (v := .int .u8 z0) rfl
    obtain ⟨w6, S2, M2⟩ := M1.single (P := Tryd.prog) 0 rfl 32 (.int .u8 z0) 5 (cs' := pc { k with hops := z0 } (.slice A n c)) (by rw [pc_len VG.out.ends]; omega) size_u8 rfl rfl (pc_seth VG.out.ends z0)
    simp only [List.set_cons_zero, List.set_cons_succ] at M2
    have VL2 := veil (msgAt M2.lay (List.mem_cons_of_mem _ (List.mem_cons_of_mem _ List.mem_cons_self)) VG.out.f).all
    obtain ⟨w7, S3, M3⟩ := M2.fresh (P := Tryd.prog) ZM 35 (mc m) (by rw [sM, mc_len VG.out.f]) (sizeMsg VG.out.f) (mc_one VG.out.f)
    have c71 := M3.lay.look (List.mem_cons_of_mem _ (List.mem_cons_of_mem _ List.mem_cons_self)) (o := 1) (v := .int .u8 z1) rfl
    obtain ⟨w8, S4, M4⟩ := M3.single (P := Tryd.prog) 0 rfl 1 (.int .u8 z1) 5 (cs' := mc { m with code := z1 }) (by rw [mc_len VG.out.f]; omega) size_u8 rfl rfl (mc_code z1)
    simp only [List.set_cons_zero, List.set_cons_succ] at M4
    have VS1 := veil S1
    have VS2 := veil S2
    have VS3 := veil S3
    have VS4 := veil S4
    have M := veil M4
    clear M1 M2 M3 M4 S1 S2 S3 S4 N sP sM
    subst hZP hZM
    go_upto_region 14 with (first
      | (refine wpList_load_of rfl (.tmp 3) rfl rfl VL1.out ?_; (try simp only [Act.put, List.setIfInBounds_toArray, List.set_cons_zero, List.set_cons_succ]))
      | (refine wpList_store_of rfl (.tmp 8) (.tmp 54) rfl rfl rfl VS1.out ?_; (try simp only [Act.put, List.setIfInBounds_toArray, List.set_cons_zero, List.set_cons_succ]))
      | (refine wpList_store_of rfl (.tmp 57) (.tmp 56) rfl rfl rfl VS2.out ?_; (try simp only [Act.put, List.setIfInBounds_toArray, List.set_cons_zero, List.set_cons_succ]))
      | (refine wpList_load_of rfl (.tmp 4) rfl rfl VL2.out ?_; (try simp only [Act.put, List.setIfInBounds_toArray, List.set_cons_zero, List.set_cons_succ]))
      | (refine wpList_store_of rfl (.tmp 9) (.tmp 58) rfl rfl rfl VS3.out ?_; (try simp only [Act.put, List.setIfInBounds_toArray, List.set_cons_zero, List.set_cons_succ]))
      | (refine wpList_store_of rfl (.tmp 61) (.tmp 60) rfl rfl rfl VS4.out ?_; (try simp only [Act.put, List.setIfInBounds_toArray, List.set_cons_zero, List.set_cons_succ])))
    clear VL1 VL2 VS1 VS2 VS3 VS4 c50 c71
    generalize wx.heap.size = gq at *
    generalize w6.heap.size = gn at *
    go_cut [75] from 62 to 74 (fun s wx => s = .bool false ∧ Hid (Kw w wx [(gn, 35, mc { m with code := z1 }), (gq, 30, pc { k with hops := z0 } (.slice A n c)), (w.heap.size + 1 + 1, 43, [.int .u8 z0, .int .u8 z1]), (w.heap.size + 1, 35, mc m), (w.heap.size, 30, pc k (.slice A n c))]))
    case first =>
      have c80 := M.out.lay.look (List.mem_cons_of_mem _ (List.mem_cons_of_mem _ List.mem_cons_self)) (o := 0) (v := .int .u8 z0) rfl
      have c81 := M.out.lay.look (List.mem_cons_of_mem _ (List.mem_cons_of_mem _ List.mem_cons_self)) (o := 1) (v := .int .u8 z1) rfl
      by_cases h0 : z0 = 1
      · rw [h0] at c80
        have H0 := veil h0
        clear h0
        by_cases h1 : z1 = 0
        · rw [h1] at c81
          clear h1
          (try go_wp2_with fail)
          go_meet
          exact ⟨rfl, M⟩
        · have H1 := veil h1
          have d1 : (z1 == 0) = false := by simp [h1]
          have d2 : (z1 != 0) = true := by simp [h1]
          have d3 : decide (z1 = 0) = false := by simp [h1]
          have TQ := veil (pktAt (k := { k with hops := z0 }) M.out.lay (List.mem_cons_of_mem _ List.mem_cons_self) ⟨VG.out.s.len, VG.out.d.len⟩).all
          have TN := veil (msgAt (m := { m with code := z1 }) M.out.lay List.mem_cons_self ⟨VG.out.f.t, VG.out.f.d, VG.out.f.g, VG.out.f.v1, VG.out.f.v2, VG.out.f.v3, VG.out.f.v4⟩).all
          go_wp2_with (first
            | (refine wpList_load_of rfl (.tmp 8) rfl rfl TQ.out ?_; (try simp only [Act.put, List.setIfInBounds_toArray, List.set_cons_zero, List.set_cons_succ]))
            | (refine wpList_load_of rfl (.tmp 9) rfl rfl TN.out ?_; (try simp only [Act.put, List.setIfInBounds_toArray, List.set_cons_zero, List.set_cons_succ])))
          clear TQ TN
          refine (codeValid { k with hops := z0 } (.slice A n c) { m with code := z1 } os _ M.out.knw (gd_of VG.out.s VG.out.d VG.out.t VG.out.e ⟨VG.out.f.t, VG.out.f.d, VG.out.f.g, VG.out.f.v1, VG.out.f.v2, VG.out.f.v3, VG.out.f.v4⟩ VG.out.fl VG.out.kd) (HO.out.keep M.out.below)).mono ?_
          rintro e w9 ⟨rfl, q⟩
          have M := veil (M.out.keep q)
          clear q
          rw [far_false HKN.out z0 z1 (Or.inr H1.out)]
          (try go_wp2_with fail)
          go_meet
          exact ⟨rfl, M⟩
      · have H0 := veil h0
        have d1 : (z0 == 1) = false := by simp [h0]
        have d2 : (z0 != 1) = true := by simp [h0]
        have d3 : decide (z0 = 1) = false := by simp [h0]
        have TQ := veil (pktAt (k := { k with hops := z0 }) M.out.lay (List.mem_cons_of_mem _ List.mem_cons_self) ⟨VG.out.s.len, VG.out.d.len⟩).all
        have TN := veil (msgAt (m := { m with code := z1 }) M.out.lay List.mem_cons_self ⟨VG.out.f.t, VG.out.f.d, VG.out.f.g, VG.out.f.v1, VG.out.f.v2, VG.out.f.v3, VG.out.f.v4⟩).all
        go_wp2_with (first
          | (refine wpList_load_of rfl (.tmp 8) rfl rfl TQ.out ?_; (try simp only [Act.put, List.setIfInBounds_toArray, List.set_cons_zero, List.set_cons_succ]))
          | (refine wpList_load_of rfl (.tmp 9) rfl rfl TN.out ?_; (try simp only [Act.put, List.setIfInBounds_toArray, List.set_cons_zero, List.set_cons_succ])))
        clear TQ TN
        refine (codeValid { k with hops := z0 } (.slice A n c) { m with code := z1 } os _ M.out.knw (gd_of VG.out.s VG.out.d VG.out.t VG.out.e ⟨VG.out.f.t, VG.out.f.d, VG.out.f.g, VG.out.f.v1, VG.out.f.v2, VG.out.f.v3, VG.out.f.v4⟩ VG.out.fl VG.out.kd) (HO.out.keep M.out.below)).mono ?_
        rintro e w9 ⟨rfl, q⟩
        have M := veil (M.out.keep q)
        clear q
        rw [far_false HKN.out z0 z1 (Or.inl (by rw [HW.out]; exact H0.out))]
        (try go_wp2_with fail)
        go_meet
        exact ⟨rfl, M⟩
    case rest =>
      rename World => wy
      obtain ⟨rfl, N⟩ := hcut
      clear M
      obtain ⟨ZM, hZM⟩ : ∃ Z : Array Value, Z = #[.int .u8 0, .int .u8 0, .int .u32 0, .slice none 0 0, .int .u8 0, .int .u8 0, .int .u16 0, .int .u32 0, .int .u32 0, .int .u8 0, .int .u8 0, .int .u8 0, .int .u8 0, .int .u8 0, .int .u8 0, .int .u8 0, .int .u8 0, .int .u8 0, .int .u8 0, .int .u8 0, .int .u8 0, .int .u8 0, .int .u8 0, .int .u8 0, .int .u8 0, .int .u8 0, .int .u8 0, .int .u8 0, .int .u8 0, .int .u8 0, .int .u8 0, .int .u8 0, .int .u8 0, .int .u8 0, .int .u8 0, .int .u8 0, .int .u8 0, .int .u8 0, .int .u8 0, .int .u8 0, .int .u8 0, .slice none 0 0, .int .u16 0, .int .u8 0, .int .u8 0, .int .u8 0, .int .u8 0, .int .u8 0, .int .u8 0, .int .u8 0, .int .u8 0, .int .u8 0, .int .u8 0, .int .u8 0, .int .u8 0, .int .u8 0, .int .u8 0, .int .u8 0, .int .u8 0, .int .u8 0, .int .u8 0, .slice none 0 0, .slice none 0 0] := ⟨_, rfl⟩
      have sM : ZM.size = 63 := by rw [hZM]; rfl
      obtain ⟨w11, S1, M1⟩ := N.out.single (P := Tryd.prog) 1 rfl 32 (.int .u8 1) 5 (cs' := pc { k with hops := 1 } (.slice A n c)) (by rw [pc_len (k := { k with hops := z0 }) ⟨VG.out.s.len, VG.out.d.len⟩]; omega) size_u8 rfl rfl (pc_seth (k := { k with hops := z0 }) ⟨VG.out.s.len, VG.out.d.len⟩ 1)
      simp only [List.set_cons_zero, List.set_cons_succ] at M1
      obtain ⟨w12, S2, M2⟩ := M1.single (P := Tryd.prog) 1 rfl 33 (.bool true) 4 (cs' := pc { k with hops := 1, alert := true } (.slice A n c)) (by rw [pc_len (k := { k with hops := 1 }) ⟨VG.out.s.len, VG.out.d.len⟩]; omega) size_bool rfl rfl (pc_seta (k := { k with hops := 1 }) ⟨VG.out.s.len, VG.out.d.len⟩ true)
      simp only [List.set_cons_zero, List.set_cons_succ] at M2
      obtain ⟨w13, S3, M3⟩ := M2.single (P := Tryd.prog) 0 rfl 1 (.int .u8 0) 5 (cs' := mc { m with code := 0 }) (by rw [mc_len (m := { m with code := z1 }) ⟨VG.out.f.t, VG.out.f.d, VG.out.f.g, VG.out.f.v1, VG.out.f.v2, VG.out.f.v3, VG.out.f.v4⟩]; omega) size_u8 rfl rfl (mc_code (m := { m with code := z1 }) 0)
      simp only [List.set_cons_zero, List.set_cons_succ] at M3
      obtain ⟨w14, S4, M4⟩ := M3.part (P := Tryd.prog) 1 rfl 0 (bv a1) 23 (cs' := pc { k with s := a1, hops := 1, alert := true } (.slice A n c)) (by rw [pc_len (k := { k with hops := 1, alert := true }) ⟨VG.out.s.len, VG.out.d.len⟩, bv_length, a1_ok.len]; omega) (sizeAddr a1_ok.len) (fun _ h => bv_byte h) (pc_puts (k := { k with hops := 1, alert := true }) VG.out.s.len a1_ok.len)
      simp only [List.set_cons_zero, List.set_cons_succ] at M4
      have VL4 := veil (msgAt (m := { m with code := 0 }) M4.lay List.mem_cons_self ⟨VG.out.f.t, VG.out.f.d, VG.out.f.g, VG.out.f.v1, VG.out.f.v2, VG.out.f.v3, VG.out.f.v4⟩).all
      obtain ⟨w15, S5, M5⟩ := M4.fresh (P := Tryd.prog) ZM 35 (mc { m with code := 0 }) (by rw [sM, mc_len (m := { m with code := 0 }) ⟨VG.out.f.t, VG.out.f.d, VG.out.f.g, VG.out.f.v1, VG.out.f.v2, VG.out.f.v3, VG.out.f.v4⟩]) (sizeMsg (m := { m with code := 0 }) ⟨VG.out.f.t, VG.out.f.d, VG.out.f.g, VG.out.f.v1, VG.out.f.v2, VG.out.f.v3, VG.out.f.v4⟩) (mc_one (m := { m with code := 0 }) ⟨VG.out.f.t, VG.out.f.d, VG.out.f.g, VG.out.f.v1, VG.out.f.v2, VG.out.f.v3, VG.out.f.v4⟩)
      obtain ⟨w16, S6, M6⟩ := M5.part (P := Tryd.prog) 0 rfl 9 (bv a2) 23 (cs' := mc { m with code := 0, t := a2 }) (by rw [mc_len (m := { m with code := 0 }) ⟨VG.out.f.t, VG.out.f.d, VG.out.f.g, VG.out.f.v1, VG.out.f.v2, VG.out.f.v3, VG.out.f.v4⟩, bv_length, a2_ok.len]; omega) (sizeAddr a2_ok.len) (fun _ h => bv_byte h) (mc_putt (m := { m with code := 0 }) VG.out.f.t a2_ok.len)
      simp only [List.set_cons_zero, List.set_cons_succ] at M6
      obtain ⟨w17, S7, M7⟩ := M6.part (P := Tryd.prog) 0 rfl 25 (bv a3) 23 (cs' := mc { m with code := 0, t := a2, d := a3 }) (by rw [mc_len (m := { m with code := 0, t := a2 }) ⟨a2_ok.len, VG.out.f.d, VG.out.f.g, VG.out.f.v1, VG.out.f.v2, VG.out.f.v3, VG.out.f.v4⟩, bv_length, a3_ok.len]; omega) (sizeAddr a3_ok.len) (fun _ h => bv_byte h) (mc_putd (m := { m with code := 0, t := a2 }) a2_ok.len VG.out.f.d a3_ok.len)
      simp only [List.set_cons_zero, List.set_cons_succ] at M7
      obtain ⟨w18, S8, M8⟩ := M7.single (P := Tryd.prog) 0 rfl 5 (.int .u8 0) 5 (cs' := mc { m with code := 0, t := a2, d := a3, flags := 0 }) (by rw [mc_len (m := { m with code := 0, t := a2, d := a3 }) ⟨a2_ok.len, a3_ok.len, VG.out.f.g, VG.out.f.v1, VG.out.f.v2, VG.out.f.v3, VG.out.f.v4⟩]; omega) size_u8 rfl rfl (mc_flags (m := { m with code := 0, t := a2, d := a3 }) 0)
      simp only [List.set_cons_zero, List.set_cons_succ] at M8
      have VS1 := veil S1
      have VS2 := veil S2
      have VS3 := veil S3
      have VS4 := veil S4
      have VS5 := veil S5
      have VS6 := veil S6
      have VS7 := veil S7
      have VS8 := veil S8
      have M := veil M8
      clear M1 M2 M3 M4 M5 M6 M7 M8 S1 S2 S3 S4 S5 S6 S7 S8 N sM
      subst hZM
      go_wp2_with (first
        | (refine wpList_store_of rfl (.tmp 77) (.tmp 76) rfl rfl rfl VS1.out ?_; (try simp only [Act.put, List.setIfInBounds_toArray, List.set_cons_zero, List.set_cons_succ]))
        | (refine wpList_store_of rfl (.tmp 78) (.const (.bool true)) rfl rfl rfl VS2.out ?_; (try simp only [Act.put, List.setIfInBounds_toArray, List.set_cons_zero, List.set_cons_succ]))
        | (refine wpList_store_of rfl (.tmp 79) (.const (.int .u8 0)) rfl rfl rfl VS3.out ?_; (try simp only [Act.put, List.setIfInBounds_toArray, List.set_cons_zero, List.set_cons_succ]))
        | (refine wpList_build_of rfl 23 #[(0, .const (.int .u8 254)), (1, .const (.int .u8 128)), (15, .const (.int .u8 1))] rfl #[(0, .int .u8 254), (1, .int .u8 128), (15, .int .u8 1)] rfl (a1_made _) ?_; (try simp only [Act.put, List.setIfInBounds_toArray, List.set_cons_zero, List.set_cons_succ]))
        | (refine wpList_store_of rfl (.tmp 81) (.tmp 80) rfl rfl rfl VS4.out ?_; (try simp only [Act.put, List.setIfInBounds_toArray, List.set_cons_zero, List.set_cons_succ]))
        | (refine wpList_load_of rfl (.tmp 9) rfl rfl VL4.out ?_; (try simp only [Act.put, List.setIfInBounds_toArray, List.set_cons_zero, List.set_cons_succ]))
        | (refine wpList_store_of rfl (.tmp 10) (.tmp 82) rfl rfl rfl VS5.out ?_; (try simp only [Act.put, List.setIfInBounds_toArray, List.set_cons_zero, List.set_cons_succ]))
        | (refine wpList_build_of rfl 23 #[(0, .const (.int .u8 254)), (1, .const (.int .u8 128)), (15, .const (.int .u8 2))] rfl #[(0, .int .u8 254), (1, .int .u8 128), (15, .int .u8 2)] rfl (a2_made _) ?_; (try simp only [Act.put, List.setIfInBounds_toArray, List.set_cons_zero, List.set_cons_succ]))
        | (refine wpList_store_of rfl (.tmp 84) (.tmp 83) rfl rfl rfl VS6.out ?_; (try simp only [Act.put, List.setIfInBounds_toArray, List.set_cons_zero, List.set_cons_succ]))
        | (refine wpList_build_of rfl 23 #[(0, .const (.int .u8 32)), (15, .const (.int .u8 3))] rfl #[(0, .int .u8 32), (15, .int .u8 3)] rfl (a3_made _) ?_; (try simp only [Act.put, List.setIfInBounds_toArray, List.set_cons_zero, List.set_cons_succ]))
        | (refine wpList_store_of rfl (.tmp 86) (.tmp 85) rfl rfl rfl VS7.out ?_; (try simp only [Act.put, List.setIfInBounds_toArray, List.set_cons_zero, List.set_cons_succ]))
        | (refine wpList_store_of rfl (.tmp 87) (.const (.int .u8 0)) rfl rfl rfl VS8.out ?_; (try simp only [Act.put, List.setIfInBounds_toArray, List.set_cons_zero, List.set_cons_succ]))
        | (refine wpList_load_of rfl (.tmp 8) rfl rfl (pktAt (k := { k with s := a1, hops := 1, alert := true }) M.out.lay (List.mem_cons_of_mem _ (List.mem_cons_of_mem _ List.mem_cons_self)) ⟨a1_ok.len, VG.out.d.len⟩).all ?_; (try simp only [Act.put, List.setIfInBounds_toArray, List.set_cons_zero, List.set_cons_succ]))
        | (refine wpList_load_of rfl (.tmp 10) rfl rfl (msgAt (m := { m with code := 0, t := a2, d := a3, flags := 0 }) M.out.lay List.mem_cons_self ⟨a2_ok.len, a3_ok.len, VG.out.f.g, VG.out.f.v1, VG.out.f.v2, VG.out.f.v3, VG.out.f.v4⟩).all ?_; (try simp only [Act.put, List.setIfInBounds_toArray, List.set_cons_zero, List.set_cons_succ])))
      clear VS1 VS2 VS3 VS4 VS5 VS6 VS7 VS8 VL4
      refine (codeValid { k with s := a1, hops := 1, alert := true } (.slice A n c) { m with code := 0, t := a2, d := a3, flags := 0 } os _ M.out.knw (gd_of (k := { k with s := a1, hops := 1, alert := true }) (m := { m with code := 0, t := a2, d := a3, flags := 0 }) a1_ok VG.out.d a2_ok a3_ok ⟨a2_ok.len, a3_ok.len, VG.out.f.g, VG.out.f.v1, VG.out.f.v2, VG.out.f.v3, VG.out.f.v4⟩ (by show (0 : Int) ≤ 0 ∧ (0 : Int) ≤ 255; decide) VG.out.kd) (HO.out.keep M.out.below)).mono ?_
      rintro e w19 ⟨rfl, q⟩
      have M := veil (M.out.keep q)
      clear q
      rw [plain_true HKN.out 1 HW.out.symm]
      go_wp2_with fail
      refine (lives_true _ M.out.knw).mono ?_
      rintro e w20 ⟨rfl, q⟩
      have M := veil (M.out.keep q)
      clear q
      go_wp2_with fail
      go_ret
      exact ⟨rfl, M.out.below⟩

set_option linter.unusedSimpArgs false in
set_option maxHeartbeats 8000000 in
theorem walkF (k : Pk) (A : Option Addr) (n c : Nat) (m : Ms) (zs : List Int) (os : List (Int × List Int)) (az : List (List Int)) (rs : List Rc) (z0 z1 : Int) (w : World) (hk : Knw w) (G : Gd k m) (HI : MsIn w m zs os az rs) (hn : ¬ 6000 < n) (hg : great zs os az rs = false) (hkn : kno m.kind = true) (hl : lis m.kind = false) : Calls Tryd.prog 4 #[pv k (.slice A n c), mv m, .agg #[.int .u8 z0, .int .u8 z1]] w fun e w' => e = .returned (.bool true) ∧ Below w.heap.size w w' := by
  have M0 := (two_new hk k (.slice A n c) m).new [.int .u8 z0, .int .u8 z1] 43 (g := w.heap.size + 1 + 1) (by simp)
  have HI1 := veil (MsIn.keep HI M0.below)
  have HO := veil (op1_of HI)
  have c39 := (pktAt M0.lay (List.mem_cons_of_mem _ (List.mem_cons_of_mem _ List.mem_cons_self)) G.ends).body
  have VL := veil (msgAt M0.lay (List.mem_cons_of_mem _ List.mem_cons_self) G.f).all
  have M := veil M0
  have VG := veil G
  have in1 : ¬ (6000 : Int) < (n : Int) := by omega
  have HG := veil hg
  have HKN := veil hkn
  have HL := veil hl
  have HW : Hid (own m.kind = 255) := veil (own_not hl)
  clear M0 HI hn hk G hg hkn hl
  go_enter Tryd.func4, Tryd.ntmps4
  go_wp2_with (refine wpList_load_of rfl (.tmp 4) rfl rfl VL.out ?_; (try simp only [Act.put, List.setIfInBounds_toArray, List.set_cons_zero, List.set_cons_succ]))
  clear c39 VL
  generalize ((w.alloc (.cells (pc k (.slice A n c)).toArray 30)).alloc (.cells (mc m).toArray 35)).alloc (.cells #[.int .u8 z0, .int .u8 z1] 43) = wb at *
  refine (greatM_any m zs os az rs _ HI1.out).mono ?_
  rintro e w1 ⟨rfl, q⟩
  have M := veil (M.out.keep q)
  clear q HI1
  rw [HG.out]
  go_wp2_with (first
    | (refine wpList_load_of rfl (.tmp 4) rfl rfl (msgAt M.out.lay (List.mem_cons_of_mem _ List.mem_cons_self) VG.out.f).all ?_; (try simp only [Act.put, List.setIfInBounds_toArray, List.set_cons_zero, List.set_cons_succ])))
  refine (knows_any m _ VG.out.f).mono ?_
  rintro e w2 ⟨rfl, q⟩
  have M := veil (M.out.keep q)
  clear q
  rw [HKN.out]
  go_wp2_with (first
    | (refine wpList_load_of rfl (.tmp 4) rfl rfl (msgAt M.out.lay (List.mem_cons_of_mem _ List.mem_cons_self) VG.out.f).all ?_; (try simp only [Act.put, List.setIfInBounds_toArray, List.set_cons_zero, List.set_cons_succ])))
  refine (listens_any m _ VG.out.f).mono ?_
  rintro e w3 ⟨rfl, q⟩
  have M := veil (M.out.keep q)
  clear q
  rw [HL.out]
  go_upto_region 8 with fail
  go_cut [53] from 31 to 52 (fun s wx => s = .bool false ∧ Hid (Kw w wx [(w.heap.size + 1 + 1, 43, [.int .u8 z0, .int .u8 z1]), (w.heap.size + 1, 35, mc m), (w.heap.size, 30, pc k (.slice A n c))]))
  case first =>
    go_wp2_with (first
      | (refine wpList_load_of rfl (.tmp 3) rfl rfl (pktAt M.out.lay (List.mem_cons_of_mem _ (List.mem_cons_of_mem _ List.mem_cons_self)) VG.out.ends).all ?_; (try simp only [Act.put, List.setIfInBounds_toArray, List.set_cons_zero, List.set_cons_succ]))
      | (refine wpList_load_of rfl (.tmp 4) rfl rfl (msgAt M.out.lay (List.mem_cons_of_mem _ List.mem_cons_self) VG.out.f).all ?_; (try simp only [Act.put, List.setIfInBounds_toArray, List.set_cons_zero, List.set_cons_succ])))
    refine (codeValid k (.slice A n c) m os _ M.out.knw VG.out (HO.out.keep M.out.below)).mono ?_
    rintro e w4 ⟨rfl, q⟩
    have M := veil (M.out.keep q)
    clear q
    cases hv : valid k m os with
    | false =>
      clear hv
      (try go_wp2_with fail)
      go_meet
      exact ⟨rfl, M⟩
    | true =>
      obtain ⟨e1, e2, e3⟩ := kno_some HKN.out hv
      rw [HW.out] at e1
      clear hv
      have c32 := (pktAt M.out.lay (List.mem_cons_of_mem _ (List.mem_cons_of_mem _ List.mem_cons_self)) VG.out.ends).hops
      have c1 := (msgAt M.out.lay (List.mem_cons_of_mem _ List.mem_cons_self) VG.out.f).code
      rw [e1] at c32
      rw [e2] at c1
      clear e1 e2 e3
      go_wp2_with (first
        | (refine wpList_load_of rfl (.tmp 4) rfl rfl (msgAt M.out.lay (List.mem_cons_of_mem _ List.mem_cons_self) VG.out.f).all ?_; (try simp only [Act.put, List.setIfInBounds_toArray, List.set_cons_zero, List.set_cons_succ])))
      clear c32 c1
      refine (listens_any m _ VG.out.f).mono ?_
      rintro e w5 ⟨rfl, q⟩
      have M := veil (M.out.keep q)
      clear q
      rw [HL.out]
      (try go_wp2_with fail)
      go_meet
      exact ⟨rfl, M⟩
  case rest =>
    rename World => wx
    obtain ⟨rfl, N⟩ := hcut
    clear M
    obtain ⟨ZP, hZP⟩ : ∃ Z : Array Value, Z = #[.int .u8 0, .int .u8 0, .int .u8 0, .int .u8 0, .int .u8 0, .int .u8 0, .int .u8 0, .int .u8 0, .int .u8 0, .int .u8 0, .int .u8 0, .int .u8 0, .int .u8 0, .int .u8 0, .int .u8 0, .int .u8 0, .int .u8 0, .int .u8 0, .int .u8 0, .int .u8 0, .int .u8 0, .int .u8 0, .int .u8 0, .int .u8 0, .int .u8 0, .int .u8 0, .int .u8 0, .int .u8 0, .int .u8 0, .int .u8 0, .int .u8 0, .int .u8 0, .int .u8 0, .bool false, .bool false, .int .u32 0, .int .u16 0, .bool false, .int .u8 0, .slice none 0 0] := ⟨_, rfl⟩
    obtain ⟨ZM, hZM⟩ : ∃ Z : Array Value, Z = #[.int .u8 0, .int .u8 0, .int .u32 0, .slice none 0 0, .int .u8 0, .int .u8 0, .int .u16 0, .int .u32 0, .int .u32 0, .int .u8 0, .int .u8 0, .int .u8 0, .int .u8 0, .int .u8 0, .int .u8 0, .int .u8 0, .int .u8 0, .int .u8 0, .int .u8 0, .int .u8 0, .int .u8 0, .int .u8 0, .int .u8 0, .int .u8 0, .int .u8 0, .int .u8 0, .int .u8 0, .int .u8 0, .int .u8 0, .int .u8 0, .int .u8 0, .int .u8 0, .int .u8 0, .int .u8 0, .int .u8 0, .int .u8 0, .int .u8 0, .int .u8 0, .int .u8 0, .int .u8 0, .int .u8 0, .slice none 0 0, .int .u16 0, .int .u8 0, .int .u8 0, .int .u8 0, .int .u8 0, .int .u8 0, .int .u8 0, .int .u8 0, .int .u8 0, .int .u8 0, .int .u8 0, .int .u8 0, .int .u8 0, .int .u8 0, .int .u8 0, .int .u8 0, .int .u8 0, .int .u8 0, .int .u8 0, .slice none 0 0, .slice none 0 0] := ⟨_, rfl⟩
    have sP : ZP.size = 40 := by rw [hZP]; rfl
    have sM : ZM.size = 63 := by rw [hZM]; rfl
    have VL1 := veil (pktAt N.out.lay (List.mem_cons_of_mem _ (List.mem_cons_of_mem _ List.mem_cons_self)) VG.out.ends).all
    obtain ⟨w5, S1, M1⟩ := N.out.fresh (P := Tryd.prog) ZP 30 (pc k (.slice A n c)) (by rw [sP, pc_len VG.out.ends]) (sizePkt VG.out.ends) (pc_one rfl)
    have c50 := M1.lay.look (List.mem_cons_of_mem _ List.mem_cons_self) (o := 0) (v := .int .u8 z0) rfl
    obtain ⟨w6, S2, M2⟩ := M1.single (P := Tryd.prog) 0 rfl 32 (.int .u8 z0) 5 (cs' := pc { k with hops := z0 } (.slice A n c)) (by rw [pc_len VG.out.ends]; omega) size_u8 rfl rfl (pc_seth VG.out.ends z0)
    simp only [List.set_cons_zero, List.set_cons_succ] at M2
    have VL2 := veil (msgAt M2.lay (List.mem_cons_of_mem _ (List.mem_cons_of_mem _ List.mem_cons_self)) VG.out.f).all
    obtain ⟨w7, S3, M3⟩ := M2.fresh (P := Tryd.prog) ZM 35 (mc m) (by rw [sM, mc_len VG.out.f]) (sizeMsg VG.out.f) (mc_one VG.out.f)
    have c71 := M3.lay.look (List.mem_cons_of_mem _ (List.mem_cons_of_mem _ List.mem_cons_self)) (o := 1) (v := .int .u8 z1) rfl
    obtain ⟨w8, S4, M4⟩ := M3.single (P := Tryd.prog) 0 rfl 1 (.int .u8 z1) 5 (cs' := mc { m with code := z1 }) (by rw [mc_len VG.out.f]; omega) size_u8 rfl rfl (mc_code z1)
    simp only [List.set_cons_zero, List.set_cons_succ] at M4
    have VS1 := veil S1
    have VS2 := veil S2
    have VS3 := veil S3
    have VS4 := veil S4
    have M := veil M4
    clear M1 M2 M3 M4 S1 S2 S3 S4 N sP sM
    subst hZP hZM
    go_upto_region 14 with (first
      | (refine wpList_load_of rfl (.tmp 3) rfl rfl VL1.out ?_; (try simp only [Act.put, List.setIfInBounds_toArray, List.set_cons_zero, List.set_cons_succ]))
      | (refine wpList_store_of rfl (.tmp 8) (.tmp 54) rfl rfl rfl VS1.out ?_; (try simp only [Act.put, List.setIfInBounds_toArray, List.set_cons_zero, List.set_cons_succ]))
      | (refine wpList_store_of rfl (.tmp 57) (.tmp 56) rfl rfl rfl VS2.out ?_; (try simp only [Act.put, List.setIfInBounds_toArray, List.set_cons_zero, List.set_cons_succ]))
      | (refine wpList_load_of rfl (.tmp 4) rfl rfl VL2.out ?_; (try simp only [Act.put, List.setIfInBounds_toArray, List.set_cons_zero, List.set_cons_succ]))
      | (refine wpList_store_of rfl (.tmp 9) (.tmp 58) rfl rfl rfl VS3.out ?_; (try simp only [Act.put, List.setIfInBounds_toArray, List.set_cons_zero, List.set_cons_succ]))
      | (refine wpList_store_of rfl (.tmp 61) (.tmp 60) rfl rfl rfl VS4.out ?_; (try simp only [Act.put, List.setIfInBounds_toArray, List.set_cons_zero, List.set_cons_succ])))
    clear VL1 VL2 VS1 VS2 VS3 VS4 c50 c71
    generalize wx.heap.size = gq at *
    generalize w6.heap.size = gn at *
    go_cut [75] from 62 to 74 (fun s wx => s = .bool false ∧ Hid (Kw w wx [(gn, 35, mc { m with code := z1 }), (gq, 30, pc { k with hops := z0 } (.slice A n c)), (w.heap.size + 1 + 1, 43, [.int .u8 z0, .int .u8 z1]), (w.heap.size + 1, 35, mc m), (w.heap.size, 30, pc k (.slice A n c))]))
    case first =>
      have c80 := M.out.lay.look (List.mem_cons_of_mem _ (List.mem_cons_of_mem _ List.mem_cons_self)) (o := 0) (v := .int .u8 z0) rfl
      have c81 := M.out.lay.look (List.mem_cons_of_mem _ (List.mem_cons_of_mem _ List.mem_cons_self)) (o := 1) (v := .int .u8 z1) rfl
      by_cases h0 : z0 = 255
      · rw [h0] at c80
        have H0 := veil h0
        clear h0
        by_cases h1 : z1 = 0
        · rw [h1] at c81
          clear h1
          (try go_wp2_with fail)
          go_meet
          exact ⟨rfl, M⟩
        · have H1 := veil h1
          have d1 : (z1 == 0) = false := by simp [h1]
          have d2 : (z1 != 0) = true := by simp [h1]
          have d3 : decide (z1 = 0) = false := by simp [h1]
          have TQ := veil (pktAt (k := { k with hops := z0 }) M.out.lay (List.mem_cons_of_mem _ List.mem_cons_self) ⟨VG.out.s.len, VG.out.d.len⟩).all
          have TN := veil (msgAt (m := { m with code := z1 }) M.out.lay List.mem_cons_self ⟨VG.out.f.t, VG.out.f.d, VG.out.f.g, VG.out.f.v1, VG.out.f.v2, VG.out.f.v3, VG.out.f.v4⟩).all
          go_wp2_with (first
            | (refine wpList_load_of rfl (.tmp 8) rfl rfl TQ.out ?_; (try simp only [Act.put, List.setIfInBounds_toArray, List.set_cons_zero, List.set_cons_succ]))
            | (refine wpList_load_of rfl (.tmp 9) rfl rfl TN.out ?_; (try simp only [Act.put, List.setIfInBounds_toArray, List.set_cons_zero, List.set_cons_succ])))
          clear TQ TN
          refine (codeValid { k with hops := z0 } (.slice A n c) { m with code := z1 } os _ M.out.knw (gd_of VG.out.s VG.out.d VG.out.t VG.out.e ⟨VG.out.f.t, VG.out.f.d, VG.out.f.g, VG.out.f.v1, VG.out.f.v2, VG.out.f.v3, VG.out.f.v4⟩ VG.out.fl VG.out.kd) (HO.out.keep M.out.below)).mono ?_
          rintro e w9 ⟨rfl, q⟩
          have M := veil (M.out.keep q)
          clear q
          rw [far_false HKN.out z0 z1 (Or.inr H1.out)]
          (try go_wp2_with fail)
          go_meet
          exact ⟨rfl, M⟩
      · have H0 := veil h0
        have d1 : (z0 == 255) = false := by simp [h0]
        have d2 : (z0 != 255) = true := by simp [h0]
        have d3 : decide (z0 = 255) = false := by simp [h0]
        have TQ := veil (pktAt (k := { k with hops := z0 }) M.out.lay (List.mem_cons_of_mem _ List.mem_cons_self) ⟨VG.out.s.len, VG.out.d.len⟩).all
        have TN := veil (msgAt (m := { m with code := z1 }) M.out.lay List.mem_cons_self ⟨VG.out.f.t, VG.out.f.d, VG.out.f.g, VG.out.f.v1, VG.out.f.v2, VG.out.f.v3, VG.out.f.v4⟩).all
        go_wp2_with (first
          | (refine wpList_load_of rfl (.tmp 8) rfl rfl TQ.out ?_; (try simp only [Act.put, List.setIfInBounds_toArray, List.set_cons_zero, List.set_cons_succ]))
          | (refine wpList_load_of rfl (.tmp 9) rfl rfl TN.out ?_; (try simp only [Act.put, List.setIfInBounds_toArray, List.set_cons_zero, List.set_cons_succ])))
        clear TQ TN
        refine (codeValid { k with hops := z0 } (.slice A n c) { m with code := z1 } os _ M.out.knw (gd_of VG.out.s VG.out.d VG.out.t VG.out.e ⟨VG.out.f.t, VG.out.f.d, VG.out.f.g, VG.out.f.v1, VG.out.f.v2, VG.out.f.v3, VG.out.f.v4⟩ VG.out.fl VG.out.kd) (HO.out.keep M.out.below)).mono ?_
        rintro e w9 ⟨rfl, q⟩
        have M := veil (M.out.keep q)
        clear q
        rw [far_false HKN.out z0 z1 (Or.inl (by rw [HW.out]; exact H0.out))]
        (try go_wp2_with fail)
        go_meet
        exact ⟨rfl, M⟩
    case rest =>
      rename World => wy
      obtain ⟨rfl, N⟩ := hcut
      clear M
      obtain ⟨ZM, hZM⟩ : ∃ Z : Array Value, Z = #[.int .u8 0, .int .u8 0, .int .u32 0, .slice none 0 0, .int .u8 0, .int .u8 0, .int .u16 0, .int .u32 0, .int .u32 0, .int .u8 0, .int .u8 0, .int .u8 0, .int .u8 0, .int .u8 0, .int .u8 0, .int .u8 0, .int .u8 0, .int .u8 0, .int .u8 0, .int .u8 0, .int .u8 0, .int .u8 0, .int .u8 0, .int .u8 0, .int .u8 0, .int .u8 0, .int .u8 0, .int .u8 0, .int .u8 0, .int .u8 0, .int .u8 0, .int .u8 0, .int .u8 0, .int .u8 0, .int .u8 0, .int .u8 0, .int .u8 0, .int .u8 0, .int .u8 0, .int .u8 0, .int .u8 0, .slice none 0 0, .int .u16 0, .int .u8 0, .int .u8 0, .int .u8 0, .int .u8 0, .int .u8 0, .int .u8 0, .int .u8 0, .int .u8 0, .int .u8 0, .int .u8 0, .int .u8 0, .int .u8 0, .int .u8 0, .int .u8 0, .int .u8 0, .int .u8 0, .int .u8 0, .int .u8 0, .slice none 0 0, .slice none 0 0] := ⟨_, rfl⟩
      have sM : ZM.size = 63 := by rw [hZM]; rfl
      obtain ⟨w11, S1, M1⟩ := N.out.single (P := Tryd.prog) 1 rfl 32 (.int .u8 255) 5 (cs' := pc { k with hops := 255 } (.slice A n c)) (by rw [pc_len (k := { k with hops := z0 }) ⟨VG.out.s.len, VG.out.d.len⟩]; omega) size_u8 rfl rfl (pc_seth (k := { k with hops := z0 }) ⟨VG.out.s.len, VG.out.d.len⟩ 255)
      simp only [List.set_cons_zero, List.set_cons_succ] at M1
      obtain ⟨w12, S2, M2⟩ := M1.single (P := Tryd.prog) 1 rfl 33 (.bool true) 4 (cs' := pc { k with hops := 255, alert := true } (.slice A n c)) (by rw [pc_len (k := { k with hops := 255 }) ⟨VG.out.s.len, VG.out.d.len⟩]; omega) size_bool rfl rfl (pc_seta (k := { k with hops := 255 }) ⟨VG.out.s.len, VG.out.d.len⟩ true)
      simp only [List.set_cons_zero, List.set_cons_succ] at M2
      obtain ⟨w13, S3, M3⟩ := M2.single (P := Tryd.prog) 0 rfl 1 (.int .u8 0) 5 (cs' := mc { m with code := 0 }) (by rw [mc_len (m := { m with code := z1 }) ⟨VG.out.f.t, VG.out.f.d, VG.out.f.g, VG.out.f.v1, VG.out.f.v2, VG.out.f.v3, VG.out.f.v4⟩]; omega) size_u8 rfl rfl (mc_code (m := { m with code := z1 }) 0)
      simp only [List.set_cons_zero, List.set_cons_succ] at M3
      obtain ⟨w14, S4, M4⟩ := M3.part (P := Tryd.prog) 1 rfl 0 (bv a1) 23 (cs' := pc { k with s := a1, hops := 255, alert := true } (.slice A n c)) (by rw [pc_len (k := { k with hops := 255, alert := true }) ⟨VG.out.s.len, VG.out.d.len⟩, bv_length, a1_ok.len]; omega) (sizeAddr a1_ok.len) (fun _ h => bv_byte h) (pc_puts (k := { k with hops := 255, alert := true }) VG.out.s.len a1_ok.len)
      simp only [List.set_cons_zero, List.set_cons_succ] at M4
      have VL4 := veil (msgAt (m := { m with code := 0 }) M4.lay List.mem_cons_self ⟨VG.out.f.t, VG.out.f.d, VG.out.f.g, VG.out.f.v1, VG.out.f.v2, VG.out.f.v3, VG.out.f.v4⟩).all
      obtain ⟨w15, S5, M5⟩ := M4.fresh (P := Tryd.prog) ZM 35 (mc { m with code := 0 }) (by rw [sM, mc_len (m := { m with code := 0 }) ⟨VG.out.f.t, VG.out.f.d, VG.out.f.g, VG.out.f.v1, VG.out.f.v2, VG.out.f.v3, VG.out.f.v4⟩]) (sizeMsg (m := { m with code := 0 }) ⟨VG.out.f.t, VG.out.f.d, VG.out.f.g, VG.out.f.v1, VG.out.f.v2, VG.out.f.v3, VG.out.f.v4⟩) (mc_one (m := { m with code := 0 }) ⟨VG.out.f.t, VG.out.f.d, VG.out.f.g, VG.out.f.v1, VG.out.f.v2, VG.out.f.v3, VG.out.f.v4⟩)
      obtain ⟨w16, S6, M6⟩ := M5.part (P := Tryd.prog) 0 rfl 9 (bv a2) 23 (cs' := mc { m with code := 0, t := a2 }) (by rw [mc_len (m := { m with code := 0 }) ⟨VG.out.f.t, VG.out.f.d, VG.out.f.g, VG.out.f.v1, VG.out.f.v2, VG.out.f.v3, VG.out.f.v4⟩, bv_length, a2_ok.len]; omega) (sizeAddr a2_ok.len) (fun _ h => bv_byte h) (mc_putt (m := { m with code := 0 }) VG.out.f.t a2_ok.len)
      simp only [List.set_cons_zero, List.set_cons_succ] at M6
      obtain ⟨w17, S7, M7⟩ := M6.part (P := Tryd.prog) 0 rfl 25 (bv a3) 23 (cs' := mc { m with code := 0, t := a2, d := a3 }) (by rw [mc_len (m := { m with code := 0, t := a2 }) ⟨a2_ok.len, VG.out.f.d, VG.out.f.g, VG.out.f.v1, VG.out.f.v2, VG.out.f.v3, VG.out.f.v4⟩, bv_length, a3_ok.len]; omega) (sizeAddr a3_ok.len) (fun _ h => bv_byte h) (mc_putd (m := { m with code := 0, t := a2 }) a2_ok.len VG.out.f.d a3_ok.len)
      simp only [List.set_cons_zero, List.set_cons_succ] at M7
      obtain ⟨w18, S8, M8⟩ := M7.single (P := Tryd.prog) 0 rfl 5 (.int .u8 0) 5 (cs' := mc { m with code := 0, t := a2, d := a3, flags := 0 }) (by rw [mc_len (m := { m with code := 0, t := a2, d := a3 }) ⟨a2_ok.len, a3_ok.len, VG.out.f.g, VG.out.f.v1, VG.out.f.v2, VG.out.f.v3, VG.out.f.v4⟩]; omega) size_u8 rfl rfl (mc_flags (m := { m with code := 0, t := a2, d := a3 }) 0)
      simp only [List.set_cons_zero, List.set_cons_succ] at M8
      have VS1 := veil S1
      have VS2 := veil S2
      have VS3 := veil S3
      have VS4 := veil S4
      have VS5 := veil S5
      have VS6 := veil S6
      have VS7 := veil S7
      have VS8 := veil S8
      have M := veil M8
      clear M1 M2 M3 M4 M5 M6 M7 M8 S1 S2 S3 S4 S5 S6 S7 S8 N sM
      subst hZM
      go_wp2_with (first
        | (refine wpList_store_of rfl (.tmp 77) (.tmp 76) rfl rfl rfl VS1.out ?_; (try simp only [Act.put, List.setIfInBounds_toArray, List.set_cons_zero, List.set_cons_succ]))
        | (refine wpList_store_of rfl (.tmp 78) (.const (.bool true)) rfl rfl rfl VS2.out ?_; (try simp only [Act.put, List.setIfInBounds_toArray, List.set_cons_zero, List.set_cons_succ]))
        | (refine wpList_store_of rfl (.tmp 79) (.const (.int .u8 0)) rfl rfl rfl VS3.out ?_; (try simp only [Act.put, List.setIfInBounds_toArray, List.set_cons_zero, List.set_cons_succ]))
        | (refine wpList_build_of rfl 23 #[(0, .const (.int .u8 254)), (1, .const (.int .u8 128)), (15, .const (.int .u8 1))] rfl #[(0, .int .u8 254), (1, .int .u8 128), (15, .int .u8 1)] rfl (a1_made _) ?_; (try simp only [Act.put, List.setIfInBounds_toArray, List.set_cons_zero, List.set_cons_succ]))
        | (refine wpList_store_of rfl (.tmp 81) (.tmp 80) rfl rfl rfl VS4.out ?_; (try simp only [Act.put, List.setIfInBounds_toArray, List.set_cons_zero, List.set_cons_succ]))
        | (refine wpList_load_of rfl (.tmp 9) rfl rfl VL4.out ?_; (try simp only [Act.put, List.setIfInBounds_toArray, List.set_cons_zero, List.set_cons_succ]))
        | (refine wpList_store_of rfl (.tmp 10) (.tmp 82) rfl rfl rfl VS5.out ?_; (try simp only [Act.put, List.setIfInBounds_toArray, List.set_cons_zero, List.set_cons_succ]))
        | (refine wpList_build_of rfl 23 #[(0, .const (.int .u8 254)), (1, .const (.int .u8 128)), (15, .const (.int .u8 2))] rfl #[(0, .int .u8 254), (1, .int .u8 128), (15, .int .u8 2)] rfl (a2_made _) ?_; (try simp only [Act.put, List.setIfInBounds_toArray, List.set_cons_zero, List.set_cons_succ]))
        | (refine wpList_store_of rfl (.tmp 84) (.tmp 83) rfl rfl rfl VS6.out ?_; (try simp only [Act.put, List.setIfInBounds_toArray, List.set_cons_zero, List.set_cons_succ]))
        | (refine wpList_build_of rfl 23 #[(0, .const (.int .u8 32)), (15, .const (.int .u8 3))] rfl #[(0, .int .u8 32), (15, .int .u8 3)] rfl (a3_made _) ?_; (try simp only [Act.put, List.setIfInBounds_toArray, List.set_cons_zero, List.set_cons_succ]))
        | (refine wpList_store_of rfl (.tmp 86) (.tmp 85) rfl rfl rfl VS7.out ?_; (try simp only [Act.put, List.setIfInBounds_toArray, List.set_cons_zero, List.set_cons_succ]))
        | (refine wpList_store_of rfl (.tmp 87) (.const (.int .u8 0)) rfl rfl rfl VS8.out ?_; (try simp only [Act.put, List.setIfInBounds_toArray, List.set_cons_zero, List.set_cons_succ]))
        | (refine wpList_load_of rfl (.tmp 8) rfl rfl (pktAt (k := { k with s := a1, hops := 255, alert := true }) M.out.lay (List.mem_cons_of_mem _ (List.mem_cons_of_mem _ List.mem_cons_self)) ⟨a1_ok.len, VG.out.d.len⟩).all ?_; (try simp only [Act.put, List.setIfInBounds_toArray, List.set_cons_zero, List.set_cons_succ]))
        | (refine wpList_load_of rfl (.tmp 10) rfl rfl (msgAt (m := { m with code := 0, t := a2, d := a3, flags := 0 }) M.out.lay List.mem_cons_self ⟨a2_ok.len, a3_ok.len, VG.out.f.g, VG.out.f.v1, VG.out.f.v2, VG.out.f.v3, VG.out.f.v4⟩).all ?_; (try simp only [Act.put, List.setIfInBounds_toArray, List.set_cons_zero, List.set_cons_succ])))
      clear VS1 VS2 VS3 VS4 VS5 VS6 VS7 VS8 VL4
      refine (codeValid { k with s := a1, hops := 255, alert := true } (.slice A n c) { m with code := 0, t := a2, d := a3, flags := 0 } os _ M.out.knw (gd_of (k := { k with s := a1, hops := 255, alert := true }) (m := { m with code := 0, t := a2, d := a3, flags := 0 }) a1_ok VG.out.d a2_ok a3_ok ⟨a2_ok.len, a3_ok.len, VG.out.f.g, VG.out.f.v1, VG.out.f.v2, VG.out.f.v3, VG.out.f.v4⟩ (by show (0 : Int) ≤ 0 ∧ (0 : Int) ≤ 255; decide) VG.out.kd) (HO.out.keep M.out.below)).mono ?_
      rintro e w19 ⟨rfl, q⟩
      have M := veil (M.out.keep q)
      clear q
      rw [plain_true HKN.out 255 HW.out.symm]
      go_wp2_with fail
      refine (lives_true _ M.out.knw).mono ?_
      rintro e w20 ⟨rfl, q⟩
      have M := veil (M.out.keep q)
      clear q
      go_wp2_with fail
      go_ret
      exact ⟨rfl, M.out.below⟩

theorem open_two {W : World} {v : Value} {r : Reach} {b0 : Nat} (hv : Value.okWide Tryd.prog W r b0 43 v) (h : Opens W 43 v.cells.toList) : ∃ z0 z1 : Int, v = .agg #[.int .u8 z0, .int .u8 z1] := by
  obtain ⟨ca, rfl, _⟩ := okWide_array2 Tryd.underlying43 hv
  obtain ⟨zs, e, hl, _⟩ := h.ints Tryd.underlying43 Tryd.underlying5 (by kernel_rfl) (by kernel_rfl)
  match zs, hl with
  | [a, b], _ =>
    refine ⟨a, b, ?_⟩
    have e' : ca.toList = [.int .u8 a, .int .u8 b] := e
    rw [← e']

theorem own : ownKnob Tryd.prog.godebug = none := by kernel_rfl
theorem readable : ∀ t ∈ Tryd.f4.params.toList, Tryd.prog.readableRec t = true ∧ t < Tryd.prog.types.size := by
  rw [Tryd.params4]
  intro t ht
  simp at ht
  rcases ht with rfl | rfl | rfl
  · exact ⟨by kernel_rfl, of_decide_eq_true (by kernel_rfl)⟩
  · exact ⟨by kernel_rfl, of_decide_eq_true (by kernel_rfl)⟩
  · exact ⟨by kernel_rfl, of_decide_eq_true (by kernel_rfl)⟩

set_option maxRecDepth 100000 in
theorem lifted (os : Os) (started : os.Started) (H : Type) (enc : TypeId × Value → H) :
    ReturnsInHanded {} Tryd.checked os 4 .any (fun w args => (Rows.checksHopsSpec.pre enc Tryd.prog Tryd.f4 [] false w args ∧ laidMetH Tryd.prog laid1 w) ∧ sizedMet enc Tryd.prog Tryd.f4 (OpenSpec.ofChange Rows.checksHopsSpec) false w args)
      (Rows.checksHopsSpec.post enc Tryd.prog Tryd.f4 false true false false) := by
  refine returnsInHanded_of_change_and (C := Tryd.checked) (X := fun w _ => laidMetH Tryd.prog laid1 w) (fun _ _ _ hh h => h.of_heap hh) own started (by kernel_rfl) Tryd.func4
    (ChangeSpec.witness_shaped (enc := enc) (C := Tryd.checked) (os := os) (X := fun w _ => laidMetH Tryd.prog laid1 w) false (World.doorLaid Tryd.prog 400 os) #[.agg #[.int .u8 0, .int .u8 0, .int .u8 0, .int .u8 0, .int .u8 0, .int .u8 0, .int .u8 0, .int .u8 0, .int .u8 0, .int .u8 0, .int .u8 0, .int .u8 0, .int .u8 0, .int .u8 0, .int .u8 0, .int .u8 0, .int .u8 0, .int .u8 0, .int .u8 0, .int .u8 0, .int .u8 0, .int .u8 0, .int .u8 0, .int .u8 0, .int .u8 0, .int .u8 0, .int .u8 0, .int .u8 0, .int .u8 0, .int .u8 0, .int .u8 0, .int .u8 0, .int .u8 0, .bool false, .bool false, .int .u32 0, .int .u16 0, .bool false, .int .u8 0, .slice none 0 0], .agg #[.int .u8 0, .int .u8 0, .int .u32 0, .slice none 0 0, .int .u8 0, .int .u8 0, .int .u16 0, .int .u32 0, .int .u32 0, .int .u8 0, .int .u8 0, .int .u8 0, .int .u8 0, .int .u8 0, .int .u8 0, .int .u8 0, .int .u8 0, .int .u8 0, .int .u8 0, .int .u8 0, .int .u8 0, .int .u8 0, .int .u8 0, .int .u8 0, .int .u8 0, .int .u8 0, .int .u8 0, .int .u8 0, .int .u8 0, .int .u8 0, .int .u8 0, .int .u8 0, .int .u8 0, .int .u8 0, .int .u8 0, .int .u8 0, .int .u8 0, .int .u8 0, .int .u8 0, .int .u8 0, .int .u8 0, .slice none 0 0, .int .u16 0, .int .u8 0, .int .u8 0, .int .u8 0, .int .u8 0, .int .u8 0, .int .u8 0, .int .u8 0, .int .u8 0, .int .u8 0, .int .u8 0, .int .u8 0, .int .u8 0, .int .u8 0, .int .u8 0, .int .u8 0, .int .u8 0, .int .u8 0, .int .u8 0, .slice none 0 0, .slice none 0 0], .agg #[.int .u8 0, .int .u8 0]] 8 rfl (World.shaped_of_RefB (by kernel_rfl) (by kernel_rfl)) (by kernel_rfl) (by kernel_rfl) (by kernel_rfl) (door_met os _)) ?_
  intro W base args ds gs before hval0 hW _ hsz0 hL _
  have hval : ∀ (j : Nat) t v, Tryd.f4.params[j]? = some t → args[j]? = some v → Value.okWide Tryd.prog W .any base t v := hval0
  have hW' := hW
  obtain ⟨p, q, hA0, hV, rfl, _, _⟩ := hW
  have hA : DataW.TrodAll enc Tryd.prog W 0 (fun _ => true) true Tryd.f4.params.toList args.toList ds p := hA0
  rw [Tryd.params4] at hA hval
  obtain ⟨v0, vs0, d0, ds0, p0, q0, hargs, rfl, rfl, h0, r0⟩ := trodAll_cons hA
  obtain ⟨v1, vs1, d1, ds1, p1, q1, rfl, rfl, rfl, h1, r1⟩ := trodAll_cons r0
  obtain ⟨v2, vs2, d2, ds2, p2, q2, rfl, rfl, rfl, h2, r2⟩ := trodAll_cons r1
  obtain ⟨rfl, rfl, rfl⟩ := trodAll_nil r2
  obtain rfl : args = #[v0, v1, v2] := by cases args; simp_all
  obtain ⟨rfl, rfl⟩ := trodVars_none hV
  have hk := knw_of_laid hL
  obtain ⟨k, A, n, c, ys, rfl, FP⟩ := open_packet (hval 0 30 v0 rfl rfl) (opens_arg h0 (slim_of hsz0 (j := 0) rfl rfl))
  obtain ⟨m, zs, os, az, rs, rfl, HI⟩ := open_message (hval 1 35 v1 rfl rfl) (opens_arg h1 (slim_of hsz0 (j := 1) rfl rfl))
  obtain ⟨z0, z1, rfl⟩ := open_two (hval 2 43 v2 rfl rfl) (opens_arg h2 (slim_of hsz0 (j := 2) rfl rfl))
  have hw : Calls Tryd.prog 4 #[pv k (.slice A n c), mv m, .agg #[.int .u8 z0, .int .u8 z1]] W fun e w' => e = .returned (.bool true) ∧ Below W.heap.size W w' := by
    have G := gd_in FP HI
    by_cases hn : 6000 < n
    · exact walk_more k A n c m z0 z1 W hk FP.m hn
    · cases hg : great zs os az rs with
      | true => exact walk_great k A n c m zs os az rs z0 z1 W hk G HI hn hg
      | false =>
        cases hkn : kno m.kind with
        | false => exact walk_other k A n c m zs os az rs z0 z1 W hk G HI hn hg hkn
        | true =>
          cases hl : lis m.kind with
          | true => exact walkT k A n c m zs os az rs z0 z1 W hk G HI hn hg hkn hl
          | false => exact walkF k A n c m zs os az rs z0 z1 W hk G HI hn hg hkn hl
  refine hw.mono fun e W' ⟨he, hb⟩ => ?_
  subst he
  exact ⟨_, rfl, law_post (by kernel_rfl) rfl rfl Tryd.underlying4 readable hW' rfl hb⟩

/-- ChecksHops: the row, as given -/
theorem row : Rows.ChecksHopsSaid :=
  OpenClaim.holds_of_wide 4 Tryd.f4 rfl rfl rfl rfl rfl rfl rfl ⟨rfl, rfl, rfl, rfl, rfl⟩ rfl rfl rfl rfl rfl (by kernel_rfl) Tryd.func4 (by kernel_rfl)
    (of_decide_eq_true (by kernel_rfl)) (by unfold Func.isWrapper; first | (rw [if_pos (by decide +kernel)]; kernel_rfl) | (rw [if_neg (by decide +kernel)]; exact ⟨rfl, rfl⟩))
    (fun os started H enc _ => lifted os started H enc)

/-- ChecksHops: the tied card, as given -/
theorem holds : Rows.ChecksHopsCardSaid :=
  Claim7.holds_tied_plain_at .later [] [.data] true Rows.checksHopsCard.stood.harness false
    row (fun _ h => by cases h) (by kernel_rfl) (fun _ h => by cases h) checksHops_row_tie rfl ⟨rfl, rfl⟩ (by kernel_rfl) rfl
    (fun f fn hf hfn => by
      obtain rfl : f = 4 := Option.some.inj ((show Tryd.prog.funcNamed "sojourner/sojournerlaw12.ChecksHops" = some 4 by kernel_rfl).symm.trans hf) |>.symm
      obtain rfl : fn = Tryd.f4 := (Option.some.inj (Tryd.func4.symm.trans hfn)).symm
      exact ⟨by kernel_rfl, fun j t ht => by
        rw [Tryd.params4] at ht
        have hm : t ∈ [30, 35, 43] := by simpa using Array.mem_of_getElem? ht
        have hall : ([30, 35, 43].all fun u => !Tryd.prog.wantsStandIn u) = true := by kernel_rfl
        exact (show Tryd.prog.wantsStandIn t = false by simpa using List.all_eq_true.1 hall t hm)⟩)
    (by kernel_rfl)

#print axioms holds
end Go.Proofs.YthkiamkhignchaaDoor.checksHops
