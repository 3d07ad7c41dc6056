/-
  ChecksOptions: options that are not of the kind 1 make no difference, nor what bytes any option has, nor the body, Next and part of a packet: the law returns true for every input, and its arguments read as before.
  Conditions: none.
-/
import Derived.Test.YthkiamkhignchaaDoorChkPQ
import Derived.Test.YthkiamkhignchaaDoorTie
import Derived.Test.YthkiamkhignchaaDoorCards
import Derived.SevenTiedAt
import Derived.Deep.RegionHeld3
import Derived.BigRegion
import Derived.Deep.CutRange
namespace Go.Proofs.YthkiamkhignchaaDoor.checksOptions
set_option maxRecDepth 100000
open Go.ChangeShapes Go.WideShapes Go.ChangeAt Go.RowKit Ops Oz Mg Ck
open Hd hiding nilV
open Ad (Knw kn kn_len kn_ok Ok mult ll sol laid1 knw_of_laid door_met)

theorem made_frag (w : World) : (Instr.build 27 #[(0, .bool true), (1, .int .u32 7)]).run Tryd.prog w = .ok (.agg (fgc { is := true, id := 7 }).toArray) w := by kernel_rfl

set_option maxHeartbeats 4000000 in
theorem walk_more (k : Pk) (A : Option Addr) (n c : Nat) (m : Ms) (xk : Int) (B : Option Addr) (nb cb : Nat) (w : World) (hk : Knw w) (he : Hd.Ends k) (h : 6000 < n) : Calls Tryd.prog 5 #[pv k (.slice A n c), mv m, ov ⟨xk, B, nb, cb⟩] w fun e w' => e = .returned (.bool true) ∧ Below w.heap.size w w' := by
  have M := veil (((Kw.begin hk).new (pc k (.slice A n c)) 30 rfl).new (mc m) 35 (g := w.heap.size + 1) (by simp) |>.new (tv ⟨xk, B, nb, cb⟩) 46 (g := w.heap.size + 1 + 1) (by simp))
  have c39 := (pktAt M.out.lay (List.mem_cons_of_mem _ (List.mem_cons_of_mem _ List.mem_cons_self)) he).body
  have in1 : (6000 : Int) < (n : Int) := by omega
  clear hk he h
  go_enter Tryd.func5, Tryd.ntmps5
  go_wp2_with fail
  refine (lives_true _ M.out.knw).mono ?_
  rintro e w1 ⟨rfl, q⟩
  have M := veil (M.out.keep q)
  clear q c39
  go_wp2_with fail
  go_ret
  exact ⟨rfl, M.out.below⟩

set_option linter.unusedSimpArgs false in
set_option maxHeartbeats 8000000 in
theorem walk_great (k : Pk) (A : Option Addr) (n c : Nat) (m : Ms) (zs : List Int) (os : List (Int × List Int)) (az : List (List Int)) (rs : List Rc) (xk : Int) (B : Option Addr) (nb cb : Nat) (w : World) (hk : Knw w) (G : Gd k m) (HI : MsIn w m zs os az rs) (hn : ¬ 6000 < n) (hg : great zs os az rs = true)  : Calls Tryd.prog 5 #[pv k (.slice A n c), mv m, ov ⟨xk, B, nb, cb⟩] w fun e w' => e = .returned (.bool true) ∧ Below w.heap.size w w' := by
  have M0 := (two_new hk k (.slice A n c) m).new (tv ⟨xk, B, nb, cb⟩) 46 (g := w.heap.size + 1 + 1) (by simp)
  have HI1 := veil (MsIn.keep HI M0.below)
  have HO := veil (op1_of HI)
  have c39 := (pktAt M0.lay (List.mem_cons_of_mem _ (List.mem_cons_of_mem _ List.mem_cons_self)) G.ends).body
  have VL := veil (msgAt M0.lay (List.mem_cons_of_mem _ List.mem_cons_self) G.f).all
  have M := veil M0
  have VG := veil G
  have in1 : ¬ (6000 : Int) < (n : Int) := by omega
  have HG := veil hg
  clear M0 HI hn hk G hg
  go_enter Tryd.func5, Tryd.ntmps5
  go_wp2_with (refine wpList_load_of rfl (.tmp 4) rfl rfl VL.out ?_; (try simp only [Act.put, List.setIfInBounds_toArray, List.set_cons_zero, List.set_cons_succ]))
  clear c39 VL
  generalize ((w.alloc (.cells (pc k (.slice A n c)).toArray 30)).alloc (.cells (mc m).toArray 35)).alloc (.cells (tv ⟨xk, B, nb, cb⟩).toArray 46) = wb at *
  refine (greatM_any m zs os az rs _ HI1.out).mono ?_
  rintro e w1 ⟨rfl, q⟩
  have M := veil (M.out.keep q)
  clear q HI1
  rw [HG.out]
  go_wp2_with fail
  refine (lives_true _ M.out.knw).mono ?_
  rintro e w2 ⟨rfl, q⟩
  have M := veil (M.out.keep q)
  clear q
  go_wp2_with fail
  go_ret
  exact ⟨rfl, M.out.below⟩

set_option linter.unusedSimpArgs false in
set_option maxHeartbeats 8000000 in
theorem walk_data (k : Pk) (A : Option Addr) (n c : Nat) (m : Ms) (zs : List Int) (os : List (Int × List Int)) (az : List (List Int)) (rs : List Rc) (xk : Int) (B : Option Addr) (nb cb : Nat) (w : World) (hk : Knw w) (G : Gd k m) (HI : MsIn w m zs os az rs) (hn : ¬ 6000 < n) (hg : great zs os az rs = false) (hb : 5000 < nb) : Calls Tryd.prog 5 #[pv k (.slice A n c), mv m, ov ⟨xk, B, nb, cb⟩] w fun e w' => e = .returned (.bool true) ∧ Below w.heap.size w w' := by
  have M0 := (two_new hk k (.slice A n c) m).new (tv ⟨xk, B, nb, cb⟩) 46 (g := w.heap.size + 1 + 1) (by simp)
  have HI1 := veil (MsIn.keep HI M0.below)
  have HO := veil (op1_of HI)
  have c39 := (pktAt M0.lay (List.mem_cons_of_mem _ (List.mem_cons_of_mem _ List.mem_cons_self)) G.ends).body
  have VL := veil (msgAt M0.lay (List.mem_cons_of_mem _ List.mem_cons_self) G.f).all
  have M := veil M0
  have VG := veil G
  have in1 : ¬ (6000 : Int) < (n : Int) := by omega
  have HG := veil hg
  have in2 : (5000 : Int) < (nb : Int) := by omega
  clear M0 HI hn hk G hg hb
  go_enter Tryd.func5, Tryd.ntmps5
  go_wp2_with (refine wpList_load_of rfl (.tmp 4) rfl rfl VL.out ?_; (try simp only [Act.put, List.setIfInBounds_toArray, List.set_cons_zero, List.set_cons_succ]))
  clear c39 VL
  generalize ((w.alloc (.cells (pc k (.slice A n c)).toArray 30)).alloc (.cells (mc m).toArray 35)).alloc (.cells (tv ⟨xk, B, nb, cb⟩).toArray 46) = wb at *
  refine (greatM_any m zs os az rs _ HI1.out).mono ?_
  rintro e w1 ⟨rfl, q⟩
  have M := veil (M.out.keep q)
  clear q HI1
  rw [HG.out]
  have c21 := M.out.lay.look List.mem_cons_self (o := 1) (v := .slice B nb cb) rfl
  go_wp2_with fail
  clear c21
  refine (lives_true _ M.out.knw).mono ?_
  rintro e w2 ⟨rfl, q⟩
  have M := veil (M.out.keep q)
  clear q
  go_wp2_with fail
  go_ret
  exact ⟨rfl, M.out.below⟩

set_option linter.unusedSimpArgs false in
set_option maxHeartbeats 8000000 in
theorem walk (k : Pk) (A : Option Addr) (n c : Nat) (m : Ms) (zs : List Int) (os : List (Int × List Int)) (az : List (List Int)) (rs : List Rc) (xk : Int) (B : Option Addr) (nb cb : Nat) (w : World) (hk : Knw w) (G : Gd k m) (HI : MsIn w m zs os az rs) (hn : ¬ 6000 < n) (hg : great zs os az rs = false) (dz : List Int) (hb : ¬ 5000 < nb) (hd : Slc w (.slice B nb cb) dz) : Calls Tryd.prog 5 #[pv k (.slice A n c), mv m, ov ⟨xk, B, nb, cb⟩] w fun e w' => e = .returned (.bool true) ∧ Below w.heap.size w w' := by
  have M0 := (two_new hk k (.slice A n c) m).new (tv ⟨xk, B, nb, cb⟩) 46 (g := w.heap.size + 1 + 1) (by simp)
  have HI1 := veil (MsIn.keep HI M0.below)
  have HO := veil (op1_of HI)
  have c39 := (pktAt M0.lay (List.mem_cons_of_mem _ (List.mem_cons_of_mem _ List.mem_cons_self)) G.ends).body
  have VL := veil (msgAt M0.lay (List.mem_cons_of_mem _ List.mem_cons_self) G.f).all
  have M := veil M0
  have VG := veil G
  have in1 : ¬ (6000 : Int) < (n : Int) := by omega
  have HG := veil hg
  have in2 : ¬ (5000 : Int) < (nb : Int) := by omega
  have HD := veil hd
  have HN := veil (show os.length ≤ 5000 by unfold great at hg; simp only [Bool.or_eq_false_iff, decide_eq_false_iff_not] at hg; omega)
  have HRD := veil HI.opts
  have KN := veil hk
  clear M0 HI hn hk G hg hb hd
  go_enter Tryd.func5, Tryd.ntmps5
  go_wp2_with (refine wpList_load_of rfl (.tmp 4) rfl rfl VL.out ?_; (try simp only [Act.put, List.setIfInBounds_toArray, List.set_cons_zero, List.set_cons_succ]))
  clear c39 VL
  generalize ((w.alloc (.cells (pc k (.slice A n c)).toArray 30)).alloc (.cells (mc m).toArray 35)).alloc (.cells (tv ⟨xk, B, nb, cb⟩).toArray 46) = wb at *
  refine (greatM_any m zs os az rs _ HI1.out).mono ?_
  rintro e w1 ⟨rfl, q⟩
  have M := veil (M.out.keep q)
  clear q HI1
  rw [HG.out]
  have c21 := M.out.lay.look List.mem_cons_self (o := 1) (v := .slice B nb cb) rfl
  go_wp2_with (first
    | (refine wpList_load_of rfl (.tmp 3) rfl rfl (pktAt M.out.lay (List.mem_cons_of_mem _ (List.mem_cons_of_mem _ List.mem_cons_self)) VG.out.ends).all ?_; (try simp only [Act.put, List.setIfInBounds_toArray, List.set_cons_zero, List.set_cons_succ]))
    | (refine wpList_load_of rfl (.tmp 4) rfl rfl (msgAt M.out.lay (List.mem_cons_of_mem _ List.mem_cons_self) VG.out.f).all ?_; (try simp only [Act.put, List.setIfInBounds_toArray, List.set_cons_zero, List.set_cons_succ])))
  clear c21
  refine (codeValid k (.slice A n c) m os _ M.out.knw VG.out (HO.out.keep M.out.below)).mono ?_
  rintro e w2 ⟨rfl, q⟩
  have M := veil (M.out.keep q)
  clear q
  obtain ⟨bz, hbz⟩ : ∃ x, valid k m os = x := ⟨_, rfl⟩
  rw [hbz]
  have HBZ := veil hbz
  clear hbz
  obtain ⟨ZM, hZM⟩ : ∃ Z : Array Value, Z = #[.int .u8 0, .int .u8 0, .int .u32 0, .slice none 0 0, .int .u8 0, .int .u8 0, .int .u16 0, .int .u32 0, .int .u32 0, .int .u8 0, .int .u8 0, .int .u8 0, .int .u8 0, .int .u8 0, .int .u8 0, .int .u8 0, .int .u8 0, .int .u8 0, .int .u8 0, .int .u8 0, .int .u8 0, .int .u8 0, .int .u8 0, .int .u8 0, .int .u8 0, .int .u8 0, .int .u8 0, .int .u8 0, .int .u8 0, .int .u8 0, .int .u8 0, .int .u8 0, .int .u8 0, .int .u8 0, .int .u8 0, .int .u8 0, .int .u8 0, .int .u8 0, .int .u8 0, .int .u8 0, .int .u8 0, .slice none 0 0, .int .u16 0, .int .u8 0, .int .u8 0, .int .u8 0, .int .u8 0, .int .u8 0, .int .u8 0, .int .u8 0, .int .u8 0, .int .u8 0, .int .u8 0, .int .u8 0, .int .u8 0, .int .u8 0, .int .u8 0, .int .u8 0, .int .u8 0, .int .u8 0, .int .u8 0, .slice none 0 0, .slice none 0 0] := ⟨_, rfl⟩
  have sM : ZM.size = 63 := by rw [hZM]; rfl
  have VL1 := veil (msgAt M.out.lay (List.mem_cons_of_mem _ List.mem_cons_self) VG.out.f).all
  obtain ⟨w3, S1, M1⟩ := M.out.fresh (P := Tryd.prog) ZM 35 (mc m) (by rw [sM, mc_len VG.out.f]) (sizeMsg VG.out.f) (mc_one VG.out.f)
  obtain ⟨w4, S2, M2⟩ := M1.single (P := Tryd.prog) 0 rfl 41 (.slice none 0 0) 31 (cs' := mc { m with opts := .slice none 0 0 }) (by rw [mc_len VG.out.f]; omega) size_opts rfl rfl (mc_opts VG.out.f _)
  simp only [List.set_cons_zero, List.set_cons_succ] at M2
  have VS1 := veil S1
  have VS2 := veil S2
  have N := veil (Many.begin M2.lay)
  clear M1 M2 S1 S2 M sM
  subst hZM
  go_wp2_with (first
    | (refine wpList_load_of rfl (.tmp 4) rfl rfl VL1.out ?_; (try simp only [Act.put, List.setIfInBounds_toArray, List.set_cons_zero, List.set_cons_succ]))
    | (refine wpList_store_of rfl (.tmp 8) (.tmp 29) rfl rfl rfl VS1.out ?_; (try simp only [Act.put, List.setIfInBounds_toArray, List.set_cons_zero, List.set_cons_succ]))
    | (refine wpList_store_of rfl (.tmp 30) (.const (.slice none 0 0)) rfl rfl rfl VS2.out ?_; (try simp only [Act.put, List.setIfInBounds_toArray, List.set_cons_zero, List.set_cons_succ])))
  clear VL1 VS1 VS2
  generalize w2.heap.size = gn at *
  have BH := veil N.out.hi
  generalize w4.heap.size = base at *
  obtain ⟨A4, k4, e4, r4⟩ := HRD.out
  have HR := veil r4
  have E4 := veil e4
  clear r4 e4 HRD
  obtain ⟨no, hno⟩ : ∃ x, os.length = x := ⟨_, rfl⟩
  have HNO := veil hno
  rw [hno] at HN E4
  clear hno
  have in3 : (no : Int) ≤ 5000 := by have := HN.out; omega
  go_loopw [9] (fun s9 wr => ∃ (i : Nat) (v : Value), i ≤ no ∧ s9 = .int .i64 i ∧ Hid (Many w wr [(gn, 35, mc { m with opts := v }), (w.heap.size + 1 + 1, 46, tv ⟨xk, B, nb, cb⟩), (w.heap.size + 1, 35, mc m), (w.heap.size, 30, pc k (.slice A n c))] base v (ol B nb cb (os.take i)))) (fun s9 _ => no - (intOf s9).toNat)
  case atStart => exact ⟨0, .slice none 0 0, Nat.zero_le _, rfl, veil N.out⟩
  case round =>
    rename World => wr
    obtain ⟨i, v, hi, rfl, VM⟩ := hrel
    clear N
    have v1 : v.oneCell' = true := by
      obtain ⟨_, _, e, _⟩ := VM.out.slice
      rw [e]
      rfl
    have c41 : wr.cell? ⟨w.heap.size + 1, 41, none⟩ = some (.slice A4 no k4) := by rw [(msgAt VM.out.lay (List.mem_cons_of_mem _ (List.mem_cons_of_mem _ List.mem_cons_self)) VG.out.f).opts, E4.out]
    by_cases hlt : i < no
    · have ij : (i : Int) < (no : Int) := by omega
      obtain ⟨o, ho⟩ : ∃ o, os[i]? = some o := ⟨_, List.getElem?_eq_getElem (by rw [HNO.out]; exact hlt)⟩
      obtain ⟨a, y, rfl, Y, k1, s1⟩ := HR.out i o ho
      have c1 := (Y.keep VM.out.lay.below).kind
      rw [k1] at c1
      have c39 := (msgAt VM.out.lay List.mem_cons_self ⟨VG.out.f.t, VG.out.f.d, VG.out.f.g, VG.out.f.v1, v1, VG.out.f.v3, VG.out.f.v4⟩).opts
      have c21 := VM.out.lay.look (List.mem_cons_of_mem _ List.mem_cons_self) (o := 1) (v := .slice B nb cb) rfl
      obtain ⟨v', w5, S1, M5, _⟩ := VM.out.drew.more ⟨o.1, B, nb, cb⟩ (by rw [ol_len, List.length_take, HNO.out]; have := HN.out; omega) 31
      rw [← ol_next ho] at M5
      have v1' : v'.oneCell' = true := by
        obtain ⟨_, _, e, _⟩ := M5.slice
        rw [e]
        rfl
      have vc' : v'.cells = #[v'] := by
        obtain ⟨_, _, e, _⟩ := M5.slice
        rw [e]
        rfl
      obtain ⟨w6, S2, M6⟩ := many_single (P := Tryd.prog) M5 0 rfl 41 v' 31 (cs' := mc { m with opts := v' }) (by rw [mc_len (m := { m with opts := v }) ⟨VG.out.f.t, VG.out.f.d, VG.out.f.g, VG.out.f.v1, v1, VG.out.f.v3, VG.out.f.v4⟩]; omega) size_opts v1' vc' (mc_opts (m := { m with opts := v }) ⟨VG.out.f.t, VG.out.f.d, VG.out.f.g, VG.out.f.v1, v1, VG.out.f.v3, VG.out.f.v4⟩ _)
      simp only [List.set_cons_zero, List.set_cons_succ] at M6
      have VS1 := veil S1
      have VS2 := veil S2
      have VN := veil M6
      have ME := veil (made_el ⟨o.1, B, nb, cb⟩ wr.drew)
      have c39b : (wr.drew.alloc (.cells (tv ⟨o.1, B, nb, cb⟩).toArray 46)).cell? ⟨gn, 41, none⟩ = some v := (msgAt (VM.out.drew.lay.keep (below_new _ _)) List.mem_cons_self ⟨VG.out.f.t, VG.out.f.d, VG.out.f.g, VG.out.f.v1, v1, VG.out.f.v3, VG.out.f.v4⟩).opts
      have c39d : wr.drew.cell? ⟨gn, 41, none⟩ = some v := c39
      have SF : ∀ (x : World) (u : Value), Lay w x [(gn, 35, mc { m with opts := u }), (w.heap.size + 1 + 1, 46, tv ⟨xk, B, nb, cb⟩), (w.heap.size + 1, 35, mc m), (w.heap.size, 30, pc k (.slice A n c))] → x.cell? ⟨w.heap.size + 1, 41, none⟩ = some (.slice (some a) no k4) ∧ x.cell? (a.add (i * 2)) = some (.int .u8 o.1) ∧ x.cell? ⟨w.heap.size + 1 + 1, 1, none⟩ = some (.slice B nb cb) := fun x u h => ⟨by rw [(msgAt h (List.mem_cons_of_mem _ (List.mem_cons_of_mem _ List.mem_cons_self)) VG.out.f).opts, E4.out], by rw [← k1]; exact (Y.keep h.below).kind, h.look (List.mem_cons_of_mem _ List.mem_cons_self) (o := 1) (v := .slice B nb cb) rfl⟩
      have SS0 := veil (SF _ _ VM.out.drew.lay)
      have SSa := veil (SF _ _ (VM.out.drew.lay.keep (below_new _ (.cells (tv ⟨o.1, B, nb, cb⟩).toArray 46))))
      have SS5 := veil (SF _ _ M5.lay)
      have SS6 := veil (SF _ _ M6.lay)
      clear Y k1 s1 ho S1 S2 M5 M6 v1 v1' vc' VM SF
      generalize o.1 = ok at *
      have hwi : IntKind.i64.wrap (i : Int) = i := by rw [IntKind.wrap_i64]; omega
      go_wp2_with fail
      clear c1 c39 c41 c21
      refine wp_region_noPanic ?_
      refine wp_region_held_drew (S := (fun w' => w'.cell? ⟨w.heap.size + 1, 41, none⟩ = some (.slice (some a) no k4) ∧ w'.cell? (a.add (i * 2)) = some (.int .u8 ok) ∧ w'.cell? ⟨w.heap.size + 1 + 1, 1, none⟩ = some (.slice B nb cb))) (by kernel_rfl) SS0.out (fun hHeld => ?_)
      generalize wr.drew = wd at *
      refine wpAnyH_take (i := 0) (v := ?_) (by rfl) (by kernel_rfl) (by kernel_rfl) (by kernel_rfl) (fun _ _ _ h => h) (Or.inl ⟨by rfl, ?_⟩) hHeld ?_
      rotate_left
      · intro w' hSw
        (try dsimp only at hSw)
        simp only [List.getElem_toArray, List.getElem_cons_zero, List.getElem_cons_succ]
        go_simp
        all_goals (try with_reducible rfl)
      try simp only [Act.put, List.setIfInBounds_toArray, List.set_cons_zero, List.set_cons_succ, List.getElem_toArray, List.getElem_cons_zero, List.getElem_cons_succ]
      refine wpAnyH_take (i := 2) (v := ?_) (by rfl) (by kernel_rfl) (by kernel_rfl) (by kernel_rfl) (fun _ _ _ h => h) (Or.inl ⟨by rfl, ?_⟩) hHeld ?_
      rotate_left
      · intro w' hSw
        (try dsimp only at hSw)
        simp only [List.getElem_toArray, List.getElem_cons_zero, List.getElem_cons_succ]
        go_simp
        all_goals (try with_reducible rfl)
      try simp only [Act.put, List.setIfInBounds_toArray, List.set_cons_zero, List.set_cons_succ, List.getElem_toArray, List.getElem_cons_zero, List.getElem_cons_succ]
      refine wpAnyH_take (i := 3) (v := ?_) (by rfl) (by kernel_rfl) (by kernel_rfl) (by kernel_rfl) (fun _ _ _ h => h) (Or.inl ⟨by rfl, ?_⟩) hHeld ?_
      rotate_left
      · intro w' hSw
        (try dsimp only at hSw)
        simp only [List.getElem_toArray, List.getElem_cons_zero, List.getElem_cons_succ]
        go_simp
        all_goals (try with_reducible rfl)
      try simp only [Act.put, List.setIfInBounds_toArray, List.set_cons_zero, List.set_cons_succ, List.getElem_toArray, List.getElem_cons_zero, List.getElem_cons_succ]
      refine wpAnyH_take (i := 4) (v := ?_) (by rfl) (by kernel_rfl) (by kernel_rfl) (by kernel_rfl) (fun _ _ _ h => h) (Or.inl ⟨by rfl, ?_⟩) hHeld ?_
      rotate_left
      · intro w' hSw
        (try dsimp only at hSw)
        simp only [List.getElem_toArray, List.getElem_cons_zero, List.getElem_cons_succ]
        go_simp
        all_goals (try with_reducible rfl)
      try simp only [Act.put, List.setIfInBounds_toArray, List.set_cons_zero, List.set_cons_succ, List.getElem_toArray, List.getElem_cons_zero, List.getElem_cons_succ]
      refine wpAnyH_take (i := 5) (v := ?_) (by rfl) (by kernel_rfl) (by kernel_rfl) (by kernel_rfl) (fun _ _ _ h => h) (Or.inl ⟨by rfl, ?_⟩) hHeld ?_
      rotate_left
      · intro w' hSw
        (try dsimp only at hSw)
        simp only [List.getElem_toArray, List.getElem_cons_zero, List.getElem_cons_succ]
        go_simp
        all_goals (try with_reducible rfl)
      try simp only [Act.put, List.setIfInBounds_toArray, List.set_cons_zero, List.set_cons_succ, List.getElem_toArray, List.getElem_cons_zero, List.getElem_cons_succ]
      refine wpAnyH_take (i := 6) (v := ?_) (by rfl) (by kernel_rfl) (by kernel_rfl) (by kernel_rfl) (fun _ _ _ h => h) (Or.inl ⟨by rfl, ?_⟩) hHeld ?_
      rotate_left
      · intro w' hSw
        (try dsimp only at hSw)
        simp only [List.getElem_toArray, List.getElem_cons_zero, List.getElem_cons_succ]
        go_simp
        all_goals (try with_reducible rfl)
      try simp only [Act.put, List.setIfInBounds_toArray, List.set_cons_zero, List.set_cons_succ, List.getElem_toArray, List.getElem_cons_zero, List.getElem_cons_succ]
      refine wpAnyH_take (i := 7) (v := ?_) (by rfl) (by kernel_rfl) (by kernel_rfl) (by kernel_rfl) (fun _ _ _ h => h) (Or.inl ⟨by rfl, ?_⟩) hHeld ?_
      rotate_left
      · intro w' hSw
        (try dsimp only at hSw)
        simp only [List.getElem_toArray, List.getElem_cons_zero, List.getElem_cons_succ]
        go_simp
        all_goals (try with_reducible rfl)
      try simp only [Act.put, List.setIfInBounds_toArray, List.set_cons_zero, List.set_cons_succ, List.getElem_toArray, List.getElem_cons_zero, List.getElem_cons_succ]
      refine wpAnyH_take (i := 8) (v := ?_) (by rfl) (by kernel_rfl) (by kernel_rfl) (by kernel_rfl) (fun _ _ _ h => h) (Or.inl ⟨by rfl, ?_⟩) hHeld ?_
      rotate_left
      · intro w' hSw
        (try dsimp only at hSw)
        simp only [List.getElem_toArray, List.getElem_cons_zero, List.getElem_cons_succ]
        go_simp
        all_goals (try with_reducible rfl)
      try simp only [Act.put, List.setIfInBounds_toArray, List.set_cons_zero, List.set_cons_succ, List.getElem_toArray, List.getElem_cons_zero, List.getElem_cons_succ]
      refine wpAnyH_take (i := 9) (v := ?_) (by rfl) (by kernel_rfl) (by kernel_rfl) (by kernel_rfl) (fun _ _ _ h => h) (Or.inl ⟨by rfl, ?_⟩) hHeld ?_
      rotate_left
      · intro w' hSw
        (try dsimp only at hSw)
        simp only [List.getElem_toArray, List.getElem_cons_zero, List.getElem_cons_succ]
        go_simp
        all_goals (try with_reducible rfl)
      try simp only [Act.put, List.setIfInBounds_toArray, List.set_cons_zero, List.set_cons_succ, List.getElem_toArray, List.getElem_cons_zero, List.getElem_cons_succ]
      refine wpAnyH_take (i := 10) (v := ?_) (by rfl) (by kernel_rfl) (by kernel_rfl) (by kernel_rfl) (fun _ _ _ h => h) (Or.inl ⟨by rfl, ?_⟩) hHeld ?_
      rotate_left
      · intro w' hSw
        (try dsimp only at hSw)
        simp only [List.getElem_toArray, List.getElem_cons_zero, List.getElem_cons_succ]
        go_simp
        all_goals (try with_reducible rfl)
      try simp only [Act.put, List.setIfInBounds_toArray, List.set_cons_zero, List.set_cons_succ, List.getElem_toArray, List.getElem_cons_zero, List.getElem_cons_succ]
      refine wpAnyH_ready (rs := [1, 11]) (by kernel_rfl) (by simp) ?_
      refine AllReadyH.cons (by rfl) (fun K hK => ?_) (AllReadyH.cons (by rfl) (fun K hK => ?_) AllReadyH.nil)
      · skip
        simp only [List.getElem_toArray, List.getElem_cons_zero, List.getElem_cons_succ]
        go_simp
        (try dsimp only)
        refine hK.out _ _ SS0.out (fun hHeld => ?_)
        clear hK K
        try simp only [Act.put, List.setIfInBounds_toArray, List.set_cons_zero, List.set_cons_succ, List.getElem_toArray, List.getElem_cons_zero, List.getElem_cons_succ]
        refine wpAnyH_ready (rs := [11]) (by kernel_rfl) (by simp) ?_
        refine AllReadyH.cons (by rfl) (fun K hK => ?_) AllReadyH.nil
        simp only [List.getElem_toArray, List.getElem_cons_zero, List.getElem_cons_succ]
        first
          | (refine wp_slice_of 31 1 #[(0, .tmp 48)] rfl #[(0, ov ⟨ok, B, nb, cb⟩)] (by simp [Act.eval]) ME.out ?_)
          | (rw [if_pos (by rfl)]; refine wp_slice_of 31 1 #[(0, .tmp 48)] rfl #[(0, ov ⟨ok, B, nb, cb⟩)] (by simp [Act.eval]) ME.out ?_)
        (try dsimp only)
        refine hK.out _ _ SSa.out (fun hHeld => ?_)
        clear hK K
        try simp only [Act.put, List.setIfInBounds_toArray, List.set_cons_zero, List.set_cons_succ, List.getElem_toArray, List.getElem_cons_zero, List.getElem_cons_succ]
        refine wpAnyH_ready (rs := [12]) (by kernel_rfl) (by simp) ?_
        refine AllReadyH.cons (by rfl) (fun K hK => ?_) AllReadyH.nil
        simp only [List.getElem_toArray, List.getElem_cons_zero, List.getElem_cons_succ]
        first
          | (refine wp_append_of (.tmp 39) (.tmp 49) rfl rfl rfl VS1.out ?_)
          | (rw [if_pos (by rfl)]; refine wp_append_of (.tmp 39) (.tmp 49) rfl rfl rfl VS1.out ?_)
        (try dsimp only)
        refine hK.out _ _ SS5.out (fun hHeld => ?_)
        clear hK K
        try simp only [Act.put, List.setIfInBounds_toArray, List.set_cons_zero, List.set_cons_succ, List.getElem_toArray, List.getElem_cons_zero, List.getElem_cons_succ]
        refine wpAnyH_take (i := 13) (v := ?_) (by rfl) (by kernel_rfl) (by kernel_rfl) (by kernel_rfl) (fun _ _ _ h => h) (Or.inl ⟨by rfl, ?_⟩) hHeld ?_
        rotate_left
        · intro w' hSw
          (try dsimp only at hSw)
          simp only [List.getElem_toArray, List.getElem_cons_zero, List.getElem_cons_succ]
          go_simp
          all_goals (try with_reducible rfl)
        try simp only [Act.put, List.setIfInBounds_toArray, List.set_cons_zero, List.set_cons_succ, List.getElem_toArray, List.getElem_cons_zero, List.getElem_cons_succ]
        refine wpAnyH_ready (rs := [14]) (by kernel_rfl) (by simp) ?_
        refine AllReadyH.cons (by rfl) (fun K hK => ?_) AllReadyH.nil
        simp only [List.getElem_toArray, List.getElem_cons_zero, List.getElem_cons_succ]
        first
          | (refine wp_store_of (.tmp 51) (.tmp 50) rfl rfl rfl VS2.out ?_)
          | (rw [if_pos (by rfl)]; refine wp_store_of (.tmp 51) (.tmp 50) rfl rfl rfl VS2.out ?_)
        (try dsimp only)
        refine hK.out _ _ SS6.out (fun hHeld => ?_)
        clear hK K
        try simp only [Act.put, List.setIfInBounds_toArray, List.set_cons_zero, List.set_cons_succ, List.getElem_toArray, List.getElem_cons_zero, List.getElem_cons_succ]
        refine wpAnyH_done (by kernel_rfl) ?_ _
        refine NoPanic.normal ?_
        clear hHeld c39d c39b SS0 SSa SS5 SS6 VS1 VS2 ME hwi
        go_wp2_with fail
        go_roundw
        case rel => exact ⟨i + 1, v', by omega, by go_num, VN⟩
        case measure => simp [intOf]; omega
      · skip
        simp only [List.getElem_toArray, List.getElem_cons_zero, List.getElem_cons_succ]
        first
          | (refine wp_slice_of 31 1 #[(0, .tmp 48)] rfl #[(0, ov ⟨ok, B, nb, cb⟩)] (by simp [Act.eval]) ME.out ?_)
          | (rw [if_pos (by rfl)]; refine wp_slice_of 31 1 #[(0, .tmp 48)] rfl #[(0, ov ⟨ok, B, nb, cb⟩)] (by simp [Act.eval]) ME.out ?_)
        (try dsimp only)
        refine hK.out _ _ SSa.out (fun hHeld => ?_)
        clear hK K
        try simp only [Act.put, List.setIfInBounds_toArray, List.set_cons_zero, List.set_cons_succ, List.getElem_toArray, List.getElem_cons_zero, List.getElem_cons_succ]
        refine wpAnyH_ready (rs := [1]) (by kernel_rfl) (by simp) ?_
        refine AllReadyH.cons (by rfl) (fun K hK => ?_) AllReadyH.nil
        simp only [List.getElem_toArray, List.getElem_cons_zero, List.getElem_cons_succ]
        go_simp
        (try dsimp only)
        refine hK.out _ _ SSa.out (fun hHeld => ?_)
        clear hK K
        try simp only [Act.put, List.setIfInBounds_toArray, List.set_cons_zero, List.set_cons_succ, List.getElem_toArray, List.getElem_cons_zero, List.getElem_cons_succ]
        refine wpAnyH_ready (rs := [12]) (by kernel_rfl) (by simp) ?_
        refine AllReadyH.cons (by rfl) (fun K hK => ?_) AllReadyH.nil
        simp only [List.getElem_toArray, List.getElem_cons_zero, List.getElem_cons_succ]
        first
          | (refine wp_append_of (.tmp 39) (.tmp 49) rfl rfl rfl VS1.out ?_)
          | (rw [if_pos (by rfl)]; refine wp_append_of (.tmp 39) (.tmp 49) rfl rfl rfl VS1.out ?_)
        (try dsimp only)
        refine hK.out _ _ SS5.out (fun hHeld => ?_)
        clear hK K
        try simp only [Act.put, List.setIfInBounds_toArray, List.set_cons_zero, List.set_cons_succ, List.getElem_toArray, List.getElem_cons_zero, List.getElem_cons_succ]
        refine wpAnyH_take (i := 13) (v := ?_) (by rfl) (by kernel_rfl) (by kernel_rfl) (by kernel_rfl) (fun _ _ _ h => h) (Or.inl ⟨by rfl, ?_⟩) hHeld ?_
        rotate_left
        · intro w' hSw
          (try dsimp only at hSw)
          simp only [List.getElem_toArray, List.getElem_cons_zero, List.getElem_cons_succ]
          go_simp
          all_goals (try with_reducible rfl)
        try simp only [Act.put, List.setIfInBounds_toArray, List.set_cons_zero, List.set_cons_succ, List.getElem_toArray, List.getElem_cons_zero, List.getElem_cons_succ]
        refine wpAnyH_ready (rs := [14]) (by kernel_rfl) (by simp) ?_
        refine AllReadyH.cons (by rfl) (fun K hK => ?_) AllReadyH.nil
        simp only [List.getElem_toArray, List.getElem_cons_zero, List.getElem_cons_succ]
        first
          | (refine wp_store_of (.tmp 51) (.tmp 50) rfl rfl rfl VS2.out ?_)
          | (rw [if_pos (by rfl)]; refine wp_store_of (.tmp 51) (.tmp 50) rfl rfl rfl VS2.out ?_)
        (try dsimp only)
        refine hK.out _ _ SS6.out (fun hHeld => ?_)
        clear hK K
        try simp only [Act.put, List.setIfInBounds_toArray, List.set_cons_zero, List.set_cons_succ, List.getElem_toArray, List.getElem_cons_zero, List.getElem_cons_succ]
        refine wpAnyH_done (by kernel_rfl) ?_ _
        refine NoPanic.normal ?_
        clear hHeld c39d c39b SS0 SSa SS5 SS6 VS1 VS2 ME hwi
        go_wp2_with fail
        go_roundw
        case rel => exact ⟨i + 1, v', by omega, by go_num, VN⟩
        case measure => simp [intOf]; omega
    · have ij : ¬ (i : Int) < (no : Int) := by omega
      have hfull : os.take i = os := List.take_of_length_le (by rw [HNO.out]; omega)
      rw [hfull] at VM
      clear hfull hlt hi
      have c20 := VM.out.lay.look (List.mem_cons_of_mem _ List.mem_cons_self) (o := 0) (v := .int .u8 xk) rfl
      have VC := veil v1
      clear v1
      have HOD := veil (one_od dz os)
      by_cases hx : xk = 1
      · rw [hx] at c20
        have HX := veil hx
        clear hx
        go_upto_region 12 with fail
        clear c20 c41
        have LZ := veil VM.out.lay
        have OZ := veil (op1_many VM.out (HD.out.keep VM.out.lay.below) (by rw [HNO.out]; have := HN.out; omega))
        have KZ := veil (KN.out.keep LZ.out.below)
        have HE := HOD
        clear VM BH
        obtain ⟨ZP, hZP⟩ : ∃ Z : Array Value, Z = #[.int .u8 0, .int .u8 0, .int .u8 0, .int .u8 0, .int .u8 0, .int .u8 0, .int .u8 0, .int .u8 0, .int .u8 0, .int .u8 0, .int .u8 0, .int .u8 0, .int .u8 0, .int .u8 0, .int .u8 0, .int .u8 0, .int .u8 0, .int .u8 0, .int .u8 0, .int .u8 0, .int .u8 0, .int .u8 0, .int .u8 0, .int .u8 0, .int .u8 0, .int .u8 0, .int .u8 0, .int .u8 0, .int .u8 0, .int .u8 0, .int .u8 0, .int .u8 0, .int .u8 0, .bool false, .bool false, .int .u32 0, .int .u16 0, .bool false, .int .u8 0, .slice none 0 0] := ⟨_, rfl⟩
        have sP : ZP.size = 40 := by rw [hZP]; rfl
        have VL1 := veil (pktAt LZ.out (List.mem_cons_of_mem _ (List.mem_cons_of_mem _ (List.mem_cons_of_mem _ List.mem_cons_self))) VG.out.ends).all
        obtain ⟨w7, S1, M1⟩ := (Kw.begin KZ.out).fresh (P := Tryd.prog) ZP 30 (pc k (.slice A n c)) (by rw [sP, pc_len VG.out.ends]) (sizePkt VG.out.ends) (pc_one rfl)
        have c71 := (LZ.out.keep M1.below).look (List.mem_cons_of_mem _ List.mem_cons_self) (o := 1) (v := .slice B nb cb) rfl
        obtain ⟨w8, S2, M2⟩ := M1.single (P := Tryd.prog) 0 rfl 39 (.slice B nb cb) 28 (cs' := pc k (.slice B nb cb)) (by rw [pc_len VG.out.ends]; omega) size_bytes rfl rfl (pc_setv VG.out.ends _)
        simp only [List.set_cons_zero, List.set_cons_succ] at M2
        have c80 := (LZ.out.keep M2.below).look (List.mem_cons_of_mem _ List.mem_cons_self) (o := 0) (v := .int .u8 xk) rfl
        obtain ⟨w9, S3, M3⟩ := M2.single (P := Tryd.prog) 0 rfl 38 (.int .u8 xk) 5 (cs' := pc { k with next := xk } (.slice B nb cb)) (by rw [pc_len VG.out.ends]; omega) size_u8 rfl rfl (pc_setn VG.out.ends xk)
        simp only [List.set_cons_zero, List.set_cons_succ] at M3
        obtain ⟨w10, S4, M4⟩ := M3.part (P := Tryd.prog) 0 rfl 34 (fgc { is := true, id := 7 }) 27 (cs' := pc { k with next := xk, frag := { is := true, id := 7 } } (.slice B nb cb)) (by rw [pc_len (k := { k with next := xk }) ⟨VG.out.s.len, VG.out.d.len⟩]; show 34 + 4 ≤ 40; omega) sizeFg (by intro u hu; simp only [fgc, List.mem_cons, List.not_mem_nil, or_false] at hu; rcases hu with rfl | rfl | rfl | rfl <;> rfl) (pc_putf (k := { k with next := xk }) ⟨VG.out.s.len, VG.out.d.len⟩ { is := true, id := 7 })
        simp only [List.set_cons_zero, List.set_cons_succ] at M4
        have VS1 := veil S1
        have VS2 := veil S2
        have VS3 := veil S3
        have VS4 := veil S4
        have M := veil M4
        clear M1 M2 M3 M4 S1 S2 S3 S4 sP
        subst hZP
        go_wp2_with (first
          | (refine wpList_load_of rfl (.tmp 3) rfl rfl VL1.out ?_; (try simp only [Act.put, List.setIfInBounds_toArray, List.set_cons_zero, List.set_cons_succ]))
          | (refine wpList_store_of rfl (.tmp 10) (.tmp 61) rfl rfl rfl VS1.out ?_; (try simp only [Act.put, List.setIfInBounds_toArray, List.set_cons_zero, List.set_cons_succ]))
          | (refine wpList_store_of rfl (.tmp 64) (.tmp 63) rfl rfl rfl VS2.out ?_; (try simp only [Act.put, List.setIfInBounds_toArray, List.set_cons_zero, List.set_cons_succ]))
          | (refine wpList_store_of rfl (.tmp 67) (.tmp 66) rfl rfl rfl VS3.out ?_; (try simp only [Act.put, List.setIfInBounds_toArray, List.set_cons_zero, List.set_cons_succ]))
          | (refine wpList_build_of rfl 27 #[(0, .const (.bool true)), (1, .const (.int .u32 7))] rfl #[(0, .bool true), (1, .int .u32 7)] rfl (made_frag _) ?_; (try simp only [Act.put, List.setIfInBounds_toArray, List.set_cons_zero, List.set_cons_succ]))
          | (refine wpList_store_of rfl (.tmp 69) (.tmp 68) rfl rfl rfl VS4.out ?_; (try simp only [Act.put, List.setIfInBounds_toArray, List.set_cons_zero, List.set_cons_succ]))
          | (refine wpList_load_of rfl (.tmp 10) rfl rfl (pktAt (k := { k with next := xk, frag := { is := true, id := 7 } }) M.out.lay List.mem_cons_self ⟨VG.out.s.len, VG.out.d.len⟩).all ?_; (try simp only [Act.put, List.setIfInBounds_toArray, List.set_cons_zero, List.set_cons_succ]))
          | (refine wpList_load_of rfl (.tmp 8) rfl rfl (msgAt (m := { m with opts := v }) (LZ.out.keep M.out.below) List.mem_cons_self ⟨VG.out.f.t, VG.out.f.d, VG.out.f.g, VG.out.f.v1, VC.out, VG.out.f.v3, VG.out.f.v4⟩).all ?_; (try simp only [Act.put, List.setIfInBounds_toArray, List.set_cons_zero, List.set_cons_succ])))
        clear VL1 VS1 VS2 VS3 VS4 c71 c80
        refine (codeValid { k with next := xk, frag := { is := true, id := 7 } } (.slice B nb cb) { m with opts := v } (od dz os) _ M.out.knw (gd_of (k := { k with next := xk, frag := { is := true, id := 7 } }) (m := { m with opts := v }) VG.out.s VG.out.d VG.out.t VG.out.e ⟨VG.out.f.t, VG.out.f.d, VG.out.f.g, VG.out.f.v1, VC.out, VG.out.f.v3, VG.out.f.v4⟩ VG.out.fl VG.out.kd) (OZ.out.keep M.out.below)).mono ?_
        rintro e w11 ⟨rfl, q⟩
        have M := veil (M.out.keep q)
        clear q
        rw [valid_same (k := k) (m := m) HE.out xk { is := true, id := 7 } v, HBZ.out]
        cases bz with
        | false =>
          go_wp2_with fail
          refine (lives_true _ M.out.knw).mono ?_
          rintro e w12 ⟨rfl, q⟩
          go_wp2_with fail
          go_ret
          exact ⟨rfl, LZ.out.below.trans ((M.out.below.trans (q.mono M.out.below.size)).mono LZ.out.below.size)⟩
        | true =>
          go_wp2_with fail
          refine (lives_true _ M.out.knw).mono ?_
          rintro e w12 ⟨rfl, q⟩
          go_wp2_with fail
          go_ret
          exact ⟨rfl, LZ.out.below.trans ((M.out.below.trans (q.mono M.out.below.size)).mono LZ.out.below.size)⟩
      · have dx1 : (xk == 1) = false := by simp [hx]
        have dx2 : (xk != 1) = true := by simp [hx]
        have dx3 : decide (xk = 1) = false := by simp [hx]
        have HX := veil hx
        have c39 := (msgAt VM.out.lay List.mem_cons_self ⟨VG.out.f.t, VG.out.f.d, VG.out.f.g, VG.out.f.v1, VC.out, VG.out.f.v3, VG.out.f.v4⟩).opts
        have VLO := veil (VM.out.lay.load (P := Tryd.prog) (List.mem_cons_of_mem _ List.mem_cons_self) (part_all _) Tryd.underlying46 rfl (sizeOpt _))
        obtain ⟨v', w5, S1, M5, _⟩ := VM.out.more ⟨xk, B, nb, cb⟩ (by rw [ol_len, HNO.out]; have := HN.out; omega) 31
        have v1' : v'.oneCell' = true := by
          obtain ⟨_, _, e, _⟩ := M5.slice
          rw [e]
          rfl
        have vc' : v'.cells = #[v'] := by
          obtain ⟨_, _, e, _⟩ := M5.slice
          rw [e]
          rfl
        obtain ⟨w6, S2, M6⟩ := many_single (P := Tryd.prog) M5 0 rfl 41 v' 31 (cs' := mc { m with opts := v' }) (by rw [mc_len (m := { m with opts := v }) ⟨VG.out.f.t, VG.out.f.d, VG.out.f.g, VG.out.f.v1, VC.out, VG.out.f.v3, VG.out.f.v4⟩]; omega) size_opts v1' vc' (mc_opts (m := { m with opts := v }) ⟨VG.out.f.t, VG.out.f.d, VG.out.f.g, VG.out.f.v1, VC.out, VG.out.f.v3, VG.out.f.v4⟩ _)
        simp only [List.set_cons_zero, List.set_cons_succ] at M6
        have VS1 := veil S1
        have VS2 := veil S2
        have VC' := veil v1'
        have EL : ol B nb cb os ++ [⟨xk, B, nb, cb⟩] = ol B nb cb (os ++ [(xk, dz)]) := by simp [ol]
        rw [EL] at M6
        have VN := veil M6
        have ME := veil (made_el ⟨xk, B, nb, cb⟩ wr)
        clear S1 S2 M5 M6 v1' vc' EL VM hx
        go_upto_region 12 with (first
          | (refine wpList_load_of rfl (.tmp 5) rfl rfl VLO.out ?_; (try simp only [Act.put, List.setIfInBounds_toArray, List.set_cons_zero, List.set_cons_succ]))
          | (refine Ad.slice_at (some 58) rfl rfl 31 1 #[(0, .tmp 57)] rfl #[(0, ov ⟨xk, B, nb, cb⟩)] (by simp [Act.eval]) ME.out ?_; (try simp only [Act.put, List.setIfInBounds_toArray, List.set_cons_zero, List.set_cons_succ]))
          | (at_builtin; refine wpList_append_run rfl (.tmp 56) (.tmp 58) rfl rfl rfl VS1.out ?_; (try simp only [Act.put, List.setIfInBounds_toArray, List.set_cons_zero, List.set_cons_succ]))
          | (refine wpList_store_of rfl (.tmp 60) (.tmp 59) rfl rfl rfl VS2.out ?_; (try simp only [Act.put, List.setIfInBounds_toArray, List.set_cons_zero, List.set_cons_succ])))
        clear VLO VS1 VS2 ME c20 c39 c41 dx1 dx2 dx3
        have LZ := veil VN.out.lay
        have OZ := veil (op1_many VN.out (HD.out.keep VN.out.lay.below) (by rw [List.length_append, HNO.out]; have := HN.out; simp only [List.length_cons, List.length_nil]; omega))
        have KZ := veil (KN.out.keep LZ.out.below)
        have HE : Hid (one (od dz (os ++ [(xk, dz)])) = one os) := veil (by rw [one_od, one_more _ _ _ HX.out])
        clear VN BH VC
        obtain ⟨ZP, hZP⟩ : ∃ Z : Array Value, Z = #[.int .u8 0, .int .u8 0, .int .u8 0, .int .u8 0, .int .u8 0, .int .u8 0, .int .u8 0, .int .u8 0, .int .u8 0, .int .u8 0, .int .u8 0, .int .u8 0, .int .u8 0, .int .u8 0, .int .u8 0, .int .u8 0, .int .u8 0, .int .u8 0, .int .u8 0, .int .u8 0, .int .u8 0, .int .u8 0, .int .u8 0, .int .u8 0, .int .u8 0, .int .u8 0, .int .u8 0, .int .u8 0, .int .u8 0, .int .u8 0, .int .u8 0, .int .u8 0, .int .u8 0, .bool false, .bool false, .int .u32 0, .int .u16 0, .bool false, .int .u8 0, .slice none 0 0] := ⟨_, rfl⟩
        have sP : ZP.size = 40 := by rw [hZP]; rfl
        have VL1 := veil (pktAt LZ.out (List.mem_cons_of_mem _ (List.mem_cons_of_mem _ (List.mem_cons_of_mem _ List.mem_cons_self))) VG.out.ends).all
        obtain ⟨w7, S1, M1⟩ := (Kw.begin KZ.out).fresh (P := Tryd.prog) ZP 30 (pc k (.slice A n c)) (by rw [sP, pc_len VG.out.ends]) (sizePkt VG.out.ends) (pc_one rfl)
        have c71 := (LZ.out.keep M1.below).look (List.mem_cons_of_mem _ List.mem_cons_self) (o := 1) (v := .slice B nb cb) rfl
        obtain ⟨w8, S2, M2⟩ := M1.single (P := Tryd.prog) 0 rfl 39 (.slice B nb cb) 28 (cs' := pc k (.slice B nb cb)) (by rw [pc_len VG.out.ends]; omega) size_bytes rfl rfl (pc_setv VG.out.ends _)
        simp only [List.set_cons_zero, List.set_cons_succ] at M2
        have c80 := (LZ.out.keep M2.below).look (List.mem_cons_of_mem _ List.mem_cons_self) (o := 0) (v := .int .u8 xk) rfl
        obtain ⟨w9, S3, M3⟩ := M2.single (P := Tryd.prog) 0 rfl 38 (.int .u8 xk) 5 (cs' := pc { k with next := xk } (.slice B nb cb)) (by rw [pc_len VG.out.ends]; omega) size_u8 rfl rfl (pc_setn VG.out.ends xk)
        simp only [List.set_cons_zero, List.set_cons_succ] at M3
        obtain ⟨w10, S4, M4⟩ := M3.part (P := Tryd.prog) 0 rfl 34 (fgc { is := true, id := 7 }) 27 (cs' := pc { k with next := xk, frag := { is := true, id := 7 } } (.slice B nb cb)) (by rw [pc_len (k := { k with next := xk }) ⟨VG.out.s.len, VG.out.d.len⟩]; show 34 + 4 ≤ 40; omega) sizeFg (by intro u hu; simp only [fgc, List.mem_cons, List.not_mem_nil, or_false] at hu; rcases hu with rfl | rfl | rfl | rfl <;> rfl) (pc_putf (k := { k with next := xk }) ⟨VG.out.s.len, VG.out.d.len⟩ { is := true, id := 7 })
        simp only [List.set_cons_zero, List.set_cons_succ] at M4
        have VS1 := veil S1
        have VS2 := veil S2
        have VS3 := veil S3
        have VS4 := veil S4
        have M := veil M4
        clear M1 M2 M3 M4 S1 S2 S3 S4 sP
        subst hZP
        go_wp2_with (first
          | (refine wpList_load_of rfl (.tmp 3) rfl rfl VL1.out ?_; (try simp only [Act.put, List.setIfInBounds_toArray, List.set_cons_zero, List.set_cons_succ]))
          | (refine wpList_store_of rfl (.tmp 10) (.tmp 61) rfl rfl rfl VS1.out ?_; (try simp only [Act.put, List.setIfInBounds_toArray, List.set_cons_zero, List.set_cons_succ]))
          | (refine wpList_store_of rfl (.tmp 64) (.tmp 63) rfl rfl rfl VS2.out ?_; (try simp only [Act.put, List.setIfInBounds_toArray, List.set_cons_zero, List.set_cons_succ]))
          | (refine wpList_store_of rfl (.tmp 67) (.tmp 66) rfl rfl rfl VS3.out ?_; (try simp only [Act.put, List.setIfInBounds_toArray, List.set_cons_zero, List.set_cons_succ]))
          | (refine wpList_build_of rfl 27 #[(0, .const (.bool true)), (1, .const (.int .u32 7))] rfl #[(0, .bool true), (1, .int .u32 7)] rfl (made_frag _) ?_; (try simp only [Act.put, List.setIfInBounds_toArray, List.set_cons_zero, List.set_cons_succ]))
          | (refine wpList_store_of rfl (.tmp 69) (.tmp 68) rfl rfl rfl VS4.out ?_; (try simp only [Act.put, List.setIfInBounds_toArray, List.set_cons_zero, List.set_cons_succ]))
          | (refine wpList_load_of rfl (.tmp 10) rfl rfl (pktAt (k := { k with next := xk, frag := { is := true, id := 7 } }) M.out.lay List.mem_cons_self ⟨VG.out.s.len, VG.out.d.len⟩).all ?_; (try simp only [Act.put, List.setIfInBounds_toArray, List.set_cons_zero, List.set_cons_succ]))
          | (refine wpList_load_of rfl (.tmp 8) rfl rfl (msgAt (m := { m with opts := v' }) (LZ.out.keep M.out.below) List.mem_cons_self ⟨VG.out.f.t, VG.out.f.d, VG.out.f.g, VG.out.f.v1, VC'.out, VG.out.f.v3, VG.out.f.v4⟩).all ?_; (try simp only [Act.put, List.setIfInBounds_toArray, List.set_cons_zero, List.set_cons_succ])))
        clear VL1 VS1 VS2 VS3 VS4 c71 c80
        refine (codeValid { k with next := xk, frag := { is := true, id := 7 } } (.slice B nb cb) { m with opts := v' } (od dz (os ++ [(xk, dz)])) _ M.out.knw (gd_of (k := { k with next := xk, frag := { is := true, id := 7 } }) (m := { m with opts := v' }) VG.out.s VG.out.d VG.out.t VG.out.e ⟨VG.out.f.t, VG.out.f.d, VG.out.f.g, VG.out.f.v1, VC'.out, VG.out.f.v3, VG.out.f.v4⟩ VG.out.fl VG.out.kd) (OZ.out.keep M.out.below)).mono ?_
        rintro e w11 ⟨rfl, q⟩
        have M := veil (M.out.keep q)
        clear q
        rw [valid_same (k := k) (m := m) HE.out xk { is := true, id := 7 } v', HBZ.out]
        cases bz with
        | false =>
          go_wp2_with fail
          refine (lives_true _ M.out.knw).mono ?_
          rintro e w12 ⟨rfl, q⟩
          go_wp2_with fail
          go_ret
          exact ⟨rfl, LZ.out.below.trans ((M.out.below.trans (q.mono M.out.below.size)).mono LZ.out.below.size)⟩
        | true =>
          go_wp2_with fail
          refine (lives_true _ M.out.knw).mono ?_
          rintro e w12 ⟨rfl, q⟩
          go_wp2_with fail
          go_ret
          exact ⟨rfl, LZ.out.below.trans ((M.out.below.trans (q.mono M.out.below.size)).mono LZ.out.below.size)⟩

theorem open_opt {W : World} {v : Value} {r : Reach} {b0 : Nat} (hv : Value.okWide Tryd.prog W r b0 46 v) (h : Opens W 46 v.cells.toList) : ∃ (x : El) (zs : List Int), v = ov x ∧ Slc W x.v zs ∧ Byt zs ∧ zs.length ≤ 140737488355328 ∧ 0 ≤ x.k ∧ x.k ≤ 255 := by
  obtain ⟨ca, rfl, _⟩ := okWide_struct Tryd.underlying46 hv
  obtain ⟨x, zs, e, k1, k2, k3, k4, k5⟩ := open_option h
  refine ⟨x, zs, ?_, k1, k2, k3, k4, k5⟩
  have e' : ca.toList = tv x := e
  show Value.agg ca = .agg (tv x).toArray
  rw [← e']

theorem own : ownKnob Tryd.prog.godebug = none := by kernel_rfl
theorem readable : ∀ t ∈ Tryd.f5.params.toList, Tryd.prog.readableRec t = true ∧ t < Tryd.prog.types.size := by
  rw [Tryd.params5]
  intro t ht
  simp at ht
  rcases ht with rfl | rfl | rfl
  · exact ⟨by kernel_rfl, of_decide_eq_true (by kernel_rfl)⟩
  · exact ⟨by kernel_rfl, of_decide_eq_true (by kernel_rfl)⟩
  · exact ⟨by kernel_rfl, of_decide_eq_true (by kernel_rfl)⟩

set_option maxRecDepth 100000 in
theorem lifted (os : Os) (started : os.Started) (H : Type) (enc : TypeId × Value → H) :
    ReturnsInHanded {} Tryd.checked os 5 .any (fun w args => (Rows.checksOptionsSpec.pre enc Tryd.prog Tryd.f5 [] false w args ∧ laidMetH Tryd.prog laid1 w) ∧ sizedMet enc Tryd.prog Tryd.f5 (OpenSpec.ofChange Rows.checksOptionsSpec) false w args)
      (Rows.checksOptionsSpec.post enc Tryd.prog Tryd.f5 false true false false) := by
  refine returnsInHanded_of_change_and (C := Tryd.checked) (X := fun w _ => laidMetH Tryd.prog laid1 w) (fun _ _ _ hh h => h.of_heap hh) own started (by kernel_rfl) Tryd.func5
    (ChangeSpec.witness_shaped (enc := enc) (C := Tryd.checked) (os := os) (X := fun w _ => laidMetH Tryd.prog laid1 w) false (World.doorLaid Tryd.prog 400 os) #[.agg #[.int .u8 0, .int .u8 0, .int .u8 0, .int .u8 0, .int .u8 0, .int .u8 0, .int .u8 0, .int .u8 0, .int .u8 0, .int .u8 0, .int .u8 0, .int .u8 0, .int .u8 0, .int .u8 0, .int .u8 0, .int .u8 0, .int .u8 0, .int .u8 0, .int .u8 0, .int .u8 0, .int .u8 0, .int .u8 0, .int .u8 0, .int .u8 0, .int .u8 0, .int .u8 0, .int .u8 0, .int .u8 0, .int .u8 0, .int .u8 0, .int .u8 0, .int .u8 0, .int .u8 0, .bool false, .bool false, .int .u32 0, .int .u16 0, .bool false, .int .u8 0, .slice none 0 0], .agg #[.int .u8 0, .int .u8 0, .int .u32 0, .slice none 0 0, .int .u8 0, .int .u8 0, .int .u16 0, .int .u32 0, .int .u32 0, .int .u8 0, .int .u8 0, .int .u8 0, .int .u8 0, .int .u8 0, .int .u8 0, .int .u8 0, .int .u8 0, .int .u8 0, .int .u8 0, .int .u8 0, .int .u8 0, .int .u8 0, .int .u8 0, .int .u8 0, .int .u8 0, .int .u8 0, .int .u8 0, .int .u8 0, .int .u8 0, .int .u8 0, .int .u8 0, .int .u8 0, .int .u8 0, .int .u8 0, .int .u8 0, .int .u8 0, .int .u8 0, .int .u8 0, .int .u8 0, .int .u8 0, .int .u8 0, .slice none 0 0, .int .u16 0, .int .u8 0, .int .u8 0, .int .u8 0, .int .u8 0, .int .u8 0, .int .u8 0, .int .u8 0, .int .u8 0, .int .u8 0, .int .u8 0, .int .u8 0, .int .u8 0, .int .u8 0, .int .u8 0, .int .u8 0, .int .u8 0, .int .u8 0, .int .u8 0, .slice none 0 0, .slice none 0 0], .agg #[.int .u8 0, .slice none 0 0]] 8 rfl (World.shaped_of_RefB (by kernel_rfl) (by kernel_rfl)) (by kernel_rfl) (by kernel_rfl) (by kernel_rfl) (door_met os _)) ?_
  intro W base args ds gs before hval0 hW _ hsz0 hL _
  have hval : ∀ (j : Nat) t v, Tryd.f5.params[j]? = some t → args[j]? = some v → Value.okWide Tryd.prog W .any base t v := hval0
  have hW' := hW
  obtain ⟨p, q, hA0, hV, rfl, _, _⟩ := hW
  have hA : DataW.TrodAll enc Tryd.prog W 0 (fun _ => true) true Tryd.f5.params.toList args.toList ds p := hA0
  rw [Tryd.params5] at hA hval
  obtain ⟨v0, vs0, d0, ds0, p0, q0, hargs, rfl, rfl, h0, r0⟩ := trodAll_cons hA
  obtain ⟨v1, vs1, d1, ds1, p1, q1, rfl, rfl, rfl, h1, r1⟩ := trodAll_cons r0
  obtain ⟨v2, vs2, d2, ds2, p2, q2, rfl, rfl, rfl, h2, r2⟩ := trodAll_cons r1
  obtain ⟨rfl, rfl, rfl⟩ := trodAll_nil r2
  obtain rfl : args = #[v0, v1, v2] := by cases args; simp_all
  obtain ⟨rfl, rfl⟩ := trodVars_none hV
  have hk := knw_of_laid hL
  obtain ⟨k, A, n, c, ys, rfl, FP⟩ := open_packet (hval 0 30 v0 rfl rfl) (opens_arg h0 (slim_of hsz0 (j := 0) rfl rfl))
  obtain ⟨m, zs, os, az, rs, rfl, HI⟩ := open_message (hval 1 35 v1 rfl rfl) (opens_arg h1 (slim_of hsz0 (j := 1) rfl rfl))
  obtain ⟨x, dz, rfl, hd, _, _, _, _⟩ := open_opt (hval 2 46 v2 rfl rfl) (opens_arg h2 (slim_of hsz0 (j := 2) rfl rfl))
  obtain ⟨xk, B, nb, cb⟩ := x
  have hw : Calls Tryd.prog 5 #[pv k (.slice A n c), mv m, ov ⟨xk, B, nb, cb⟩] W fun e w' => e = .returned (.bool true) ∧ Below W.heap.size W w' := by
    have G := gd_in FP HI
    by_cases hn : 6000 < n
    · exact walk_more k A n c m xk B nb cb W hk FP.m hn
    · cases hg : great zs os az rs with
      | true => exact walk_great k A n c m zs os az rs xk B nb cb W hk G HI hn hg
      | false =>
        by_cases hb : 5000 < nb
        · exact walk_data k A n c m zs os az rs xk B nb cb W hk G HI hn hg hb
        · exact walk k A n c m zs os az rs xk B nb cb W hk G HI hn hg dz hb hd
  refine hw.mono fun e W' ⟨he, hb⟩ => ?_
  subst he
  exact ⟨_, rfl, law_post (by kernel_rfl) rfl rfl Tryd.underlying4 readable hW' rfl hb⟩

/-- ChecksOptions: the row, as given -/
theorem row : Rows.ChecksOptionsSaid :=
  OpenClaim.holds_of_wide 5 Tryd.f5 rfl rfl rfl rfl rfl rfl rfl ⟨rfl, rfl, rfl, rfl, rfl⟩ rfl rfl rfl rfl rfl (by kernel_rfl) Tryd.func5 (by kernel_rfl)
    (of_decide_eq_true (by kernel_rfl)) (by unfold Func.isWrapper; first | (rw [if_pos (by decide +kernel)]; kernel_rfl) | (rw [if_neg (by decide +kernel)]; exact ⟨rfl, rfl⟩))
    (fun os started H enc _ => lifted os started H enc)

/-- ChecksOptions: the tied card, as given -/
theorem holds : Rows.ChecksOptionsCardSaid :=
  Claim7.holds_tied_plain_at .later [] [.data] true Rows.checksOptionsCard.stood.harness false
    row (fun _ h => by cases h) (by kernel_rfl) (fun _ h => by cases h) checksOptions_row_tie rfl ⟨rfl, rfl⟩ (by kernel_rfl) rfl
    (fun f fn hf hfn => by
      obtain rfl : f = 5 := Option.some.inj ((show Tryd.prog.funcNamed "sojourner/sojournerlaw12.ChecksOptions" = some 5 by kernel_rfl).symm.trans hf) |>.symm
      obtain rfl : fn = Tryd.f5 := (Option.some.inj (Tryd.func5.symm.trans hfn)).symm
      exact ⟨by kernel_rfl, fun j t ht => by
        rw [Tryd.params5] at ht
        have hm : t ∈ [30, 35, 46] := by simpa using Array.mem_of_getElem? ht
        have hall : ([30, 35, 46].all fun u => !Tryd.prog.wantsStandIn u) = true := by kernel_rfl
        exact (show Tryd.prog.wantsStandIn t = false by simpa using List.all_eq_true.1 hall t hm)⟩)
    (by kernel_rfl)

#print axioms holds
end Go.Proofs.YthkiamkhignchaaDoor.checksOptions
