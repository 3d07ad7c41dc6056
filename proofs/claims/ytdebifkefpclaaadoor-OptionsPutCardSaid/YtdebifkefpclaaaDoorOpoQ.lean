/-
  Options' bytes, by the document's answer: whatever options there are.
  Conditions: a list that reads as options; at most 16000000 bytes all in all.
-/
import Derived.Test.YtdebifkefpclaaaDoorOpoP
import Derived.Test.YtdebifkefpclaaaDoorOpoR
import Derived.Test.YtdebifkefpclaaaDoorGrow
namespace Go.Proofs.YtdebifkefpclaaaDoor.Oz
set_option maxRecDepth 100000
open Go.RowKit Ops

/-- one byte is written -/
theorem store_cell {w : World} {g i : Nat} {z y : Int} (c : w.cell? ⟨g, i, none⟩ = some (.int .u8 y)) (f : w.frozen? ⟨g, i, none⟩ = false) : (Instr.storeAt 5 (.pointer (some ⟨g, i, none⟩)) (.int .u8 z)).run Tryd.prog w = .ok () (w.setCell ⟨g, i, none⟩ (.int .u8 z)) := by
  obtain ⟨j, hj, hz0, hz1, hz2⟩ := info_parts info_u8
  have a0 : (⟨g, i, none⟩ : Addr).add 0 = ⟨g, i, none⟩ := by simp [Addr.add]
  simp [a0, Instr.storeAt, Instr.sureAddr, storeVar, sizeOf, typeInfo, hj, hz1, Value.cells, storeCells, run_store_int, stored, c, f]
theorem slc_lit (w : World) (zs : List Int) : Slc (w.alloc (.cells (bv zs).toArray 5)) (.slice (some ⟨w.heap.size, 0, none⟩) zs.length zs.length) zs :=
  slc_part (row_new (w := w) (g := w.heap.size) (t := 5) (cs := (bv zs).toArray) rfl) (part_all _) rfl (Nat.le_refl _)
/-- a list of one's own, with its second byte written anew -/
theorem _root_.Go.Proofs.YtdebifkefpclaaaDoor.Grow.poke {w0 w : World} {base : Nat} {v : Value} {xs : List Int} (h : Grow w0 w [] base v xs) {i : Nat} (hi : i < xs.length) (z : Int) :
    ∃ g cap w', v = .slice (some ⟨g, 0, none⟩) xs.length cap ∧ (Instr.storeAt 5 (.pointer (some ⟨g, i, none⟩)) (.int .u8 z)).run Tryd.prog w = .ok () w' ∧ Slc w' v (xs.set i z) ∧ Below w0.heap.size w0 w' := by
  obtain ⟨g, cap, rest, e, hg, hr, hc⟩ := own_row h.own (fun e => by rw [e] at hi; simp at hi)
  refine ⟨g, cap, _, e, store_cell (part_cell hr i hi) (hr.frozen i), ?_, ?_⟩
  · have := row_part (part_set hr i hi z)
    exact .inr ⟨_, cap, by rw [e, List.length_set], this, by rw [List.length_set]; exact hc⟩
  · have hlt := hr.lt
    have h1 := h.lay.below
    have h2 := h.lo
    exact below_gb h1 (gb_set w g i _) h1.size (by omega)

set_option linter.unusedSimpArgs false in
set_option maxHeartbeats 8000000 in
theorem refPut (A : Option Addr) (n c : Nat) (os : List (Int × List Int)) (w : World) (hl : os.length = n) (ha : Reads w A os) (hz : sizeO os ≤ 16000000) (ho : ∀ o ∈ os, o.2.length ≤ 16000000) :
    Calls Tryd.prog 16 #[.slice A n c] w (Gives w (putO os)) := by
  have HA := veil ha
  have HL := veil hl
  have HZ := veil hz
  have HO := veil ho
  have in16 : (n : Int) ≤ 2000000 := by have := sizeO_many os; omega
  have VG := veil (Grow.begin (Lay.begin w))
  obtain ⟨base, hb⟩ : ∃ b, w.heap.size = b := ⟨_, rfl⟩
  rw [hb] at VG
  clear ha hl hz ho hb
  go_enter Tryd.func16, Tryd.ntmps16
  go_wp2_with fail
  go_loopw [3, 4] (fun s3 s4 wr => ∃ i : Nat, i ≤ n ∧ s4 = .int .i64 i ∧ Hid (Grow w wr [] base s3 (putO (os.take i)))) (fun _ s4 _ => n - (intOf s4).toNat)
  case atStart => exact ⟨0, Nat.zero_le _, rfl, by simpa [putO] using VG⟩
  case round =>
    rename_i s3 wr
    obtain ⟨i, hi, rfl, VR⟩ := hrel
    clear VG
    by_cases hlt : i < n
    · have ij : (i : Int) < (n : Int) := by omega
      obtain ⟨o, ho⟩ : ∃ o, os[i]? = some o := ⟨_, List.getElem?_eq_getElem (by rw [HL.out]; exact hlt)⟩
      obtain ⟨a, x, rfl, X, k1, s1⟩ := HA.out i o ho
      have X := X.keep VR.out.lay.below
      have s1 := s1.keep VR.out.lay.below
      obtain ⟨xk, xA, xn, xc⟩ := x
      have c0 := X.kind
      have c1 := X.data
      have hxn : o.2.length = xn := (slc_of s1).1
      have hcap : xn ≤ xc := (slc_of s1).2.2
      have hon := HO.out o (List.mem_of_getElem? ho)
      have hst : sizeO (os.take i) + 8 * e8 o.2.length ≤ 16000000 := by
        rw [← sizeO_next ho]
        exact Nat.le_trans (sizeO_take os (i + 1)) HZ.out
      have hke := kept8_le xn
      have hep := e8_pos xn
      have SD := slc_front s1 hke.1
      have hob : ob o = [xk, (e8 xn : Int)] ++ o.2.take (kept8 xn) ++ List.replicate (8 * e8 xn - 2 - kept8 xn) 0 := by rw [ob, hxn]; rw [show o.1 = xk from k1.symm]
      have hds : (o.2.take (kept8 xn)).length = kept8 xn := by rw [List.length_take]; omega
      have hk7 : 8 * e8 xn ≤ kept8 xn + 9 := by unfold kept8 e8; omega
      have hkn : (2038 < xn ∧ kept8 xn = 2038) ∨ (xn ≤ 2038 ∧ kept8 xn = xn) := by unfold kept8 e8; omega
      rw [hxn] at hst
      have hpn := putO_next ho
      generalize e8 xn = ee at *
      generalize kept8 xn = m at *
      generalize o.2.take m = dd at *
      have G0 := (Grow.begin (Lay.begin wr)).keep (below_new wr (.cells (bv [xk, 0]).toArray 5))
      obtain ⟨v1, w1, h1, G1⟩ := G0.append (slc_lit wr [xk, 0]) (by simp) 26
      obtain ⟨v2, w2, h2, G2⟩ := G1.append (SD.keep G1.lay.below) (by simp; omega) 26
      rw [List.nil_append] at G2
      have H1 := veil h1
      have H2 := veil h2
      have VB := veil G2
      obtain ⟨b2, hb2⟩ : ∃ b, wr.heap.size = b := ⟨_, rfl⟩
      rw [hb2] at VB
      rw [← hds] at hob hk7
      have hke2 : dd.length + 2 ≤ 8 * ee := by omega
      obtain ⟨A2, c2, e2, _, _⟩ := G2.own.slc.slice
      obtain ⟨k2, hk2⟩ : ∃ k, ([xk, 0] ++ dd).length = k := ⟨_, rfl⟩
      rw [hk2] at e2
      subst e2
      have hk2' : k2 = dd.length + 2 := by rw [← hk2]; simp
      obtain ⟨tt, htt⟩ : ∃ t, 8 * ee = t := ⟨_, rfl⟩
      rw [htt] at hob hk7 hke2 hst
      have HTT := veil htt
      have HK2 := veil hk2'
      have HOB := veil hob
      have HPN := veil hpn
      have HST := veil hst
      have HK7 := veil hk7
      have HKE := veil hke2
      have HEP := veil hep
      clear X s1 ho k1 hob hpn G0 G1 G2 SD hds hst hon hk7 hke hke2 hep hb2 h1 h2 hk2 hk2' htt
      rcases hkn with ⟨hlong, hm⟩ | ⟨hlong, hm⟩
      · have il : (2038 : Int) < (xn : Int) := by omega
        have hcx : 2038 ≤ xc := by omega
        subst hm
        go_wp2_with (first
          | (at_builtin; refine wpList_append_run rfl (.tmp 23) (.tmp 29) rfl rfl rfl H1.out ?_)
          | (at_builtin; refine wpList_append_run rfl (.tmp 31) (.tmp 32) rfl rfl rfl H2.out ?_))
        clear H1 H2
        go_loopw [6] (fun s6 wq => ∃ (A6 : Option Addr) (k6 c6 : Nat), s6 = .slice A6 k6 c6 ∧ k6 ≤ tt ∧ Hid (Grow wr wq [] b2 (.slice A6 k6 c6) ([xk, 0] ++ dd ++ List.replicate (k6 - 2 - dd.length) 0) ∧ dd.length + 2 ≤ k6)) (fun s6 _ => tt - lenS s6)
        case atStart => exact ⟨_, _, _, rfl, by have := HK2.out; have := HKE.out; omega, veil ⟨by simpa [HK2.out] using VB.out, by have := HK2.out; omega⟩⟩
        case round =>
          rename World => wq
          obtain ⟨A6, k6, c6, rfl, hk6, VI⟩ := hrel
          clear VB HK2
          by_cases hk : k6 < tt
          · obtain ⟨r, hr⟩ : ∃ r : Nat, k6 % 8 = r := ⟨_, rfl⟩
            have t1 : ((k6 : Int)).tmod 8 = (r : Int) := by rw [Int.tmod_eq_emod_of_nonneg (by omega)]; omega
            have t2 : IntKind.i64.wrap (r : Int) = (r : Int) := by rw [IntKind.wrap_i64]; omega
            have t3 : ((r : Int) == 0) = false := by have := VI.out.2; have := HK7.out; have := HTT.out; simp; omega
            have t4 : ¬ (r : Int) = 0 := by simpa using t3
            have hlen : ([xk, 0] ++ dd ++ List.replicate (k6 - 2 - dd.length) 0).length = k6 := by have := VI.out.2; simp; omega
            obtain ⟨v3, w3, h3, G3⟩ := (VI.out.1.keep (below_new wq (.cells (bv [0]).toArray 5))).append (slc_lit wq [0]) (by rw [hlen]; have := HST.out; simp; omega) 26
            obtain ⟨A3, c3, e3, _, _⟩ := G3.own.slc.slice
            rw [List.length_append, hlen] at e3
            subst e3
            have H3 := veil h3
            have VI3 : Hid (Grow wr w3 [] b2 (.slice A3 (k6 + 1) c3) ([xk, 0] ++ dd ++ List.replicate (k6 + 1 - 2 - dd.length) 0) ∧ dd.length + 2 ≤ k6 + 1) := by
              have := VI.out.2
              refine veil ⟨?_, by omega⟩
              rw [show k6 + 1 - 2 - dd.length = (k6 - 2 - dd.length) + 1 by omega, List.replicate_succ', ← List.append_assoc]
              exact G3
            clear VI h3 G3 hlen hr
            go_wp2_with (at_builtin; refine wpList_append_run rfl (.tmp 38) (.tmp 39) rfl rfl rfl H3.out ?_)
            go_roundw
            case rel => exact ⟨_, _, _, rfl, by omega, VI3⟩
            case measure => simp [lenS]; omega
          · obtain rfl : k6 = tt := by omega
            have t1 : ((k6 : Int)).tmod 8 = 0 := by rw [Int.tmod_eq_emod_of_nonneg (by omega)]; have := HTT.out; omega
            have q1 : ((k6 : Int)).tdiv 8 = (ee : Int) := by rw [Int.tdiv_eq_ediv_of_nonneg (by omega)]; have := HTT.out; omega
            have q2 : IntKind.i64.wrap (ee : Int) = (ee : Int) := by have := HEP.out; rw [IntKind.wrap_i64]; omega
            have q3 : IntKind.u8.wrap (ee : Int) = (ee : Int) := by have := HEP.out; rw [IntKind.wrap_u8]; omega
            have i1 : (1 : Int) < (k6 : Int) := by have := HEP.out; have := HTT.out; omega
            have hlen : ([xk, 0] ++ dd ++ List.replicate (k6 - 2 - dd.length) 0).length = k6 := by have := VI.out.2; simp; omega
            obtain ⟨g4, cap4, w4, e4, h4, S4, B4⟩ := VI.out.1.poke (i := 1) (by rw [hlen]; omega) (ee : Int)
            rw [hlen] at e4
            injection e4 with ea eb ec
            subst ea ec
            have hset : List.set ([xk, 0] ++ dd ++ List.replicate (k6 - 2 - dd.length) 0) 1 (ee : Int) = ob o := by rw [HOB.out]; rfl
            rw [hset] at S4
            have hol : (ob o).length = k6 := by rw [HOB.out]; have := VI.out.2; simp; omega
            obtain ⟨v5, w5, h5, G5⟩ := (VR.out.keep B4).append S4 (by rw [hol]; exact Nat.le_trans HST.out (by omega)) 26
            have H4 := veil h4
            have H5 := veil h5
            have VG5 : Hid (Grow w w5 [] base v5 (putO (os.take (i + 1)))) := veil (by rw [HPN.out]; exact G5)
            clear VI VR h4 h5 S4 B4 G5 hlen hol
            go_wp2_with (first
              | (refine wpList_store_of rfl _ _ rfl rfl rfl H4.out ?_)
              | (at_builtin; refine wpList_append_run rfl (.tmp 47) (.tmp 48) rfl rfl rfl H5.out ?_))
            go_roundw
            case rel => exact ⟨i + 1, by omega, by go_num, VG5⟩
            case measure => simp [intOf]; omega

      · have il : ¬ (2038 : Int) < (xn : Int) := by omega
        subst hm
        go_wp2_with (first
          | (at_builtin; refine wpList_append_run rfl (.tmp 23) (.tmp 29) rfl rfl rfl H1.out ?_)
          | (at_builtin; refine wpList_append_run rfl (.tmp 31) (.tmp 32) rfl rfl rfl H2.out ?_))
        clear H1 H2
        go_loopw [6] (fun s6 wq => ∃ (A6 : Option Addr) (k6 c6 : Nat), s6 = .slice A6 k6 c6 ∧ k6 ≤ tt ∧ Hid (Grow wr wq [] b2 (.slice A6 k6 c6) ([xk, 0] ++ dd ++ List.replicate (k6 - 2 - dd.length) 0) ∧ dd.length + 2 ≤ k6)) (fun s6 _ => tt - lenS s6)
        case atStart => exact ⟨_, _, _, rfl, by have := HK2.out; have := HKE.out; omega, veil ⟨by simpa [HK2.out] using VB.out, by have := HK2.out; omega⟩⟩
        case round =>
          rename World => wq
          obtain ⟨A6, k6, c6, rfl, hk6, VI⟩ := hrel
          clear VB HK2
          by_cases hk : k6 < tt
          · obtain ⟨r, hr⟩ : ∃ r : Nat, k6 % 8 = r := ⟨_, rfl⟩
            have t1 : ((k6 : Int)).tmod 8 = (r : Int) := by rw [Int.tmod_eq_emod_of_nonneg (by omega)]; omega
            have t2 : IntKind.i64.wrap (r : Int) = (r : Int) := by rw [IntKind.wrap_i64]; omega
            have t3 : ((r : Int) == 0) = false := by have := VI.out.2; have := HK7.out; have := HTT.out; simp; omega
            have t4 : ¬ (r : Int) = 0 := by simpa using t3
            have hlen : ([xk, 0] ++ dd ++ List.replicate (k6 - 2 - dd.length) 0).length = k6 := by have := VI.out.2; simp; omega
            obtain ⟨v3, w3, h3, G3⟩ := (VI.out.1.keep (below_new wq (.cells (bv [0]).toArray 5))).append (slc_lit wq [0]) (by rw [hlen]; have := HST.out; simp; omega) 26
            obtain ⟨A3, c3, e3, _, _⟩ := G3.own.slc.slice
            rw [List.length_append, hlen] at e3
            subst e3
            have H3 := veil h3
            have VI3 : Hid (Grow wr w3 [] b2 (.slice A3 (k6 + 1) c3) ([xk, 0] ++ dd ++ List.replicate (k6 + 1 - 2 - dd.length) 0) ∧ dd.length + 2 ≤ k6 + 1) := by
              have := VI.out.2
              refine veil ⟨?_, by omega⟩
              rw [show k6 + 1 - 2 - dd.length = (k6 - 2 - dd.length) + 1 by omega, List.replicate_succ', ← List.append_assoc]
              exact G3
            clear VI h3 G3 hlen hr
            go_wp2_with (at_builtin; refine wpList_append_run rfl (.tmp 38) (.tmp 39) rfl rfl rfl H3.out ?_)
            go_roundw
            case rel => exact ⟨_, _, _, rfl, by omega, VI3⟩
            case measure => simp [lenS]; omega
          · obtain rfl : k6 = tt := by omega
            have t1 : ((k6 : Int)).tmod 8 = 0 := by rw [Int.tmod_eq_emod_of_nonneg (by omega)]; have := HTT.out; omega
            have q1 : ((k6 : Int)).tdiv 8 = (ee : Int) := by rw [Int.tdiv_eq_ediv_of_nonneg (by omega)]; have := HTT.out; omega
            have q2 : IntKind.i64.wrap (ee : Int) = (ee : Int) := by have := HEP.out; rw [IntKind.wrap_i64]; omega
            have q3 : IntKind.u8.wrap (ee : Int) = (ee : Int) := by have := HEP.out; rw [IntKind.wrap_u8]; omega
            have i1 : (1 : Int) < (k6 : Int) := by have := HEP.out; have := HTT.out; omega
            have hlen : ([xk, 0] ++ dd ++ List.replicate (k6 - 2 - dd.length) 0).length = k6 := by have := VI.out.2; simp; omega
            obtain ⟨g4, cap4, w4, e4, h4, S4, B4⟩ := VI.out.1.poke (i := 1) (by rw [hlen]; omega) (ee : Int)
            rw [hlen] at e4
            injection e4 with ea eb ec
            subst ea ec
            have hset : List.set ([xk, 0] ++ dd ++ List.replicate (k6 - 2 - dd.length) 0) 1 (ee : Int) = ob o := by rw [HOB.out]; rfl
            rw [hset] at S4
            have hol : (ob o).length = k6 := by rw [HOB.out]; have := VI.out.2; simp; omega
            obtain ⟨v5, w5, h5, G5⟩ := (VR.out.keep B4).append S4 (by rw [hol]; exact Nat.le_trans HST.out (by omega)) 26
            have H4 := veil h4
            have H5 := veil h5
            have VG5 : Hid (Grow w w5 [] base v5 (putO (os.take (i + 1)))) := veil (by rw [HPN.out]; exact G5)
            clear VI VR h4 h5 S4 B4 G5 hlen hol
            go_wp2_with (first
              | (refine wpList_store_of rfl _ _ rfl rfl rfl H4.out ?_)
              | (at_builtin; refine wpList_append_run rfl (.tmp 47) (.tmp 48) rfl rfl rfl H5.out ?_))
            go_roundw
            case rel => exact ⟨i + 1, by omega, by go_num, VG5⟩
            case measure => simp [intOf]; omega

    · obtain rfl : i = n := by omega
      have ij : ¬ (i : Int) < (i : Int) := by omega
      have hfull : os.take i = os := List.take_of_length_le (by rw [HL.out]; omega)
      rw [hfull] at VR
      go_wp2_with fail
      go_ret
      exact VR.out.gives

end Go.Proofs.YtdebifkefpclaaaDoor.Oz
