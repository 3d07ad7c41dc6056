/-
  ChecksValid: whatever packet and message there are, whether the message counts is the chapter's; both stay: the law returns true for every input, and its arguments read as before.
  Conditions: none.
-/
import Derived.Test.YthkiamkhignchaaDoorChkPQ
import Derived.Test.YthkiamkhignchaaDoorChkR
import Derived.Test.YthkiamkhignchaaDoorMsgU
import Derived.Test.YthkiamkhignchaaDoorTie
import Derived.Test.YthkiamkhignchaaDoorCards
import Derived.SevenTiedAt
namespace Go.Proofs.YthkiamkhignchaaDoor.checksValid
set_option maxRecDepth 100000
open Go.ChangeShapes Go.WideShapes Go.ChangeAt Go.RowKit Ops Mg Ck
open Hd hiding nilV
open Ad (Knw kn kn_len kn_ok Ok mult ll sol laid1 knw_of_laid door_met)

theorem fresh2 {w0 w : World} {L : List Blk} {P : Program} (h : Kw w0 w L) (Z : Array Value) (t : TypeId) (cs : List Value) (hz : Z.size = cs.length) (hi : (P.info? t).map (·.size) = some cs.length) (h1 : ∀ v ∈ cs, v.oneCell' = true) :
    ∃ w', (Instr.storeAt t (.pointer (some ⟨w.heap.size, 0, none⟩)) (.agg cs.toArray)).run P (w.alloc (.cells Z t)) = .ok () w' ∧ Kw w0 w' ((w.heap.size, t, cs) :: L) ∧ Below w.heap.size w w' := by
  obtain ⟨w', s, K⟩ := (Kw.begin h.knw).fresh (P := P) Z t cs hz hi h1
  exact ⟨w', s, ⟨h.k0, h.lay.got K.below (K.lay.at mem0) (Nat.le_refl _)⟩, K.below⟩
theorem tm_drew {w0 w : World} {q go gs gr : Nat} {lo : List Oz.El} {lr : List Rl} {zs : List Int} {os : List (Int × List Int)} {az : List (List Int)} {rs : List Rc} (h : TwM w0 w q go gs gr lo lr zs os az rs) : TwM w0 w.drew q go gs gr lo lr zs os az rs := h.keep (still_below (Below.refl _ _))
theorem valid_mf (k : Pk) (m : Ms) (zs : List Int) (os : List (Int × List Int)) (az : List (List Int)) (rs : List Rc) (f : Four) : valid k (mf m zs os az rs f) os = valid k m os := rfl

set_option maxHeartbeats 4000000 in
theorem walk_more (k : Pk) (A : Option Addr) (n c : Nat) (mm : Ms) (w : World) (hk : Knw w) (he : Hd.Ends k) (h : 6000 < n) : Calls Tryd.prog 3 #[pv k (.slice A n c), mv mm] w fun e w' => e = .returned (.bool true) ∧ Below w.heap.size w w' := by
  have M := veil (((Kw.begin hk).new (pc k (.slice A n c)) 30 rfl).new (mc mm) 35 (g := w.heap.size + 1) (by simp))
  have c39 := (pktAt M.out.lay (List.mem_cons_of_mem _ List.mem_cons_self) he).body
  have in1 : (6000 : Int) < (n : Int) := by omega
  clear hk he h
  go_enter Tryd.func3, Tryd.ntmps3
  go_wp2_with fail
  refine (lives_true _ M.out.knw).mono ?_
  rintro e w1 ⟨rfl, q⟩
  have M := veil (M.out.keep q)
  clear q c39
  go_wp2_with fail
  go_ret
  exact ⟨rfl, M.out.below⟩

set_option linter.unusedSimpArgs false in
set_option maxHeartbeats 8000000 in
theorem walk_great (k : Pk) (A : Option Addr) (n c : Nat) (mm : Ms) (zs : List Int) (os : List (Int × List Int)) (az : List (List Int)) (rs : List Rc) (w : World) (hk : Knw w) (G : Gd k mm) (HI : MsIn w mm zs os az rs) (hn : ¬ 6000 < n) (hg : great zs os az rs = true) : Calls Tryd.prog 3 #[pv k (.slice A n c), mv mm] w fun e w' => e = .returned (.bool true) ∧ Below w.heap.size w w' := by
  have M0 := two_new hk k (.slice A n c) mm
  have HI1 := veil (MsIn.keep HI M0.below)
  have c39 := (pktAt M0.lay (List.mem_cons_of_mem _ List.mem_cons_self) G.ends).body
  have VL := veil (msgAt M0.lay List.mem_cons_self G.f).all
  have M := veil M0
  have VG := veil G
  have in1 : ¬ (6000 : Int) < (n : Int) := by omega
  have HG := veil hg
  clear M0 HI hn hk G hg
  go_enter Tryd.func3, Tryd.ntmps3
  go_wp2_with (refine wpList_load_of rfl (.tmp 3) rfl rfl VL.out ?_; (try simp only [Act.put, List.setIfInBounds_toArray, List.set_cons_zero, List.set_cons_succ]))
  clear c39 VL
  generalize (w.alloc (.cells (pc k (.slice A n c)).toArray 30)).alloc (.cells (mc mm).toArray 35) = wb at *
  refine (greatM_any mm zs os az rs _ HI1.out).mono ?_
  rintro e w1 ⟨rfl, q⟩
  have M := veil (M.out.keep q)
  clear q HI1
  rw [HG.out]
  go_wp2_with fail
  refine (lives_true _ M.out.knw).mono ?_
  rintro e w2 ⟨rfl, q⟩
  have M := veil (M.out.keep q)
  clear q
  go_wp2_with fail
  go_ret
  exact ⟨rfl, M.out.below⟩

set_option linter.unusedSimpArgs false in
set_option maxHeartbeats 8000000 in
theorem walk (k : Pk) (A : Option Addr) (n c : Nat) (ys : List Int) (m mm : Ms) (zs : List Int) (os : List (Int × List Int)) (az : List (List Int)) (rs : List Rc) (f : Four) (w : World) (hk : Knw w) (G : Gd k mm) (HI : MsIn w mm zs os az rs) (hn : ¬ 6000 < n) (FP : FitsP w k A n c ys) (F0 : Fine3 m) (hmm : mf m zs os az rs f = mm) (hr : Rd4 w f zs os az rs) (hg : great zs os az rs = false) : Calls Tryd.prog 3 #[pv k (.slice A n c), mv mm] w fun e w' => e = .returned (.bool true) ∧ Below w.heap.size w w' := by
  have M0 := two_new hk k (.slice A n c) mm
  have HI1 := veil (MsIn.keep HI M0.below)
  have c39 := (pktAt M0.lay (List.mem_cons_of_mem _ List.mem_cons_self) G.ends).body
  have VL := veil (msgAt M0.lay List.mem_cons_self G.f).all
  have M := veil M0
  have VG := veil G
  have in1 : ¬ (6000 : Int) < (n : Int) := by omega
  have HG := veil hg
  have KTP : ∀ u, Below w.heap.size w u → Calls Tryd.prog 9 #[pv k (.slice A n c)] u fun e w' => ∃ g, u.heap.size ≤ g ∧ e = .returned (pv k (.slice (some ⟨g, 0, none⟩) n (n + 4))) ∧ TwinAt w' g ys ∧ Below u.heap.size u w' := fun u hu => twinPacket_any k A n c ys u FP.m FP.len (by omega) ((slc_of FP.slc).2.1.keep hu)
  have BN := bnd_of hg
  have KTM : ∀ u, Below w.heap.size w u → Calls Tryd.prog 10 #[mv mm] u fun e w' => ∃ q go gs gr lo lr, e = .returned (mv (mf m zs os az rs (tf q go gs gr zs os az rs))) ∧ TwM u w' q go gs gr lo lr zs os az rs ∧ Below u.heap.size u w' := fun u hu => by
    have := twinMessage_any m zs os az rs f u F0 (hr.keep hu) BN
    rwa [hmm] at this
  have KLP : ∀ u g, Below w.heap.size w u → TwinAt u g ys → Calls Tryd.prog 13 #[pv k (.slice (some ⟨g, 0, none⟩) n (n + 4)), pv k (.slice A n c)] u fun e w' => e = .returned (.bool true) ∧ Below u.heap.size u w' := fun u g hu ht => leftPacket_true k g A n (n + 4) c ys u FP.m FP.len (by omega) ht ((slc_of FP.slc).2.1.keep hu) (Nat.le_refl _)
  have KLM : ∀ u w0 q go gs gr lo lr, Below w.heap.size w u → TwM w0 u q go gs gr lo lr zs os az rs → Calls Tryd.prog 14 #[mv (mf m zs os az rs (tf q go gs gr zs os az rs)), mv mm] u fun e w' => e = .returned (.bool true) ∧ Below u.heap.size u w' := fun u w0 q go gs gr lo lr hu ht => by
    have := leftMessage_true m zs os az rs f w0 u q go gs gr lo lr F0 (hr.keep hu) BN ht
    rwa [hmm] at this
  have KV1 : ∀ u g w0 q go gs gr lo lr, Knw u → TwM w0 u q go gs gr lo lr zs os az rs → Calls Tryd.prog 11 #[pv k (.slice (some ⟨g, 0, none⟩) n (n + 4)), mv (mf m zs os az rs (tf q go gs gr zs os az rs))] u fun e w' => e = .returned (.bool (valid k m os)) ∧ Below u.heap.size u w' := fun u g w0 q go gs gr lo lr hu ht => by
    have hG : Gd k (mf m zs os az rs (tf q go gs gr zs os az rs)) := by
      rw [← hmm] at G
      exact gd_of G.s G.d G.t G.e (mf_fine F0) G.fl G.kd
    have := codeValid k (.slice (some ⟨g, 0, none⟩) n (n + 4)) (mf m zs os az rs (tf q go gs gr zs os az rs)) os u hu hG ⟨⟨_, _, rfl, ht.o.reads⟩, by have := BN.o; omega⟩
    rwa [valid_mf] at this
  have KV2 : ∀ u, Knw u → Below w.heap.size w u → Calls Tryd.prog 12 #[pv k (.slice A n c), mv mm] u fun e w' => e = .returned (.bool (valid k m os)) ∧ Below u.heap.size u w' := fun u hu hb => by
    have := refValid k (.slice A n c) mm os u hu G ((op1_of HI).keep hb)
    rwa [show valid k mm os = valid k m os by rw [← hmm, valid_mf]] at this
  have VTP := veil KTP
  have VTM := veil KTM
  have VLP := veil KLP
  have VLM := veil KLM
  have VV1 := veil KV1
  have VV2 := veil KV2
  have VF0 := veil F0
  generalize valid k m os = bz at *
  clear M0 HI hn hk G hg KTP KTM KLP KLM KV1 KV2 FP F0 hr BN hmm
  go_enter Tryd.func3, Tryd.ntmps3
  go_wp2_with (refine wpList_load_of rfl (.tmp 3) rfl rfl VL.out ?_; (try simp only [Act.put, List.setIfInBounds_toArray, List.set_cons_zero, List.set_cons_succ]))
  clear c39 VL
  generalize (w.alloc (.cells (pc k (.slice A n c)).toArray 30)).alloc (.cells (mc mm).toArray 35) = wb at *
  refine (greatM_any mm zs os az rs _ HI1.out).mono ?_
  rintro e w1 ⟨rfl, q⟩
  have M := veil (M.out.keep q)
  clear q HI1
  rw [HG.out]
  go_wp2_with (first
    | (refine wpList_load_of rfl (.tmp 2) rfl rfl (pktAt M.out.lay (List.mem_cons_of_mem _ List.mem_cons_self) VG.out.ends).all ?_; (try simp only [Act.put, List.setIfInBounds_toArray, List.set_cons_zero, List.set_cons_succ])))
  refine (VTP.out _ M.out.below).mono ?_
  rintro e w2 ⟨g, hgs, rfl, tp, q⟩
  have M := veil (M.out.keep q)
  obtain ⟨ZP, hZP⟩ : ∃ Z : Array Value, Z = #[.int .u8 0, .int .u8 0, .int .u8 0, .int .u8 0, .int .u8 0, .int .u8 0, .int .u8 0, .int .u8 0, .int .u8 0, .int .u8 0, .int .u8 0, .int .u8 0, .int .u8 0, .int .u8 0, .int .u8 0, .int .u8 0, .int .u8 0, .int .u8 0, .int .u8 0, .int .u8 0, .int .u8 0, .int .u8 0, .int .u8 0, .int .u8 0, .int .u8 0, .int .u8 0, .int .u8 0, .int .u8 0, .int .u8 0, .int .u8 0, .int .u8 0, .int .u8 0, .int .u8 0, .bool false, .bool false, .int .u32 0, .int .u16 0, .bool false, .int .u8 0, .slice none 0 0] := ⟨_, rfl⟩
  have sP : ZP.size = 40 := by rw [hZP]; rfl
  obtain ⟨w3, S3, M3, q3⟩ := fresh2 (P := Tryd.prog) M.out ZP 30 (pc k (.slice (some ⟨g, 0, none⟩) n (n + 4))) (by rw [sP, pc_len VG.out.ends]) (sizePkt VG.out.ends) (pc_one rfl)
  have tp3 := veil (Row.keep tp q3)
  have VS3 := veil S3
  have M := veil M3
  clear q tp hgs S3 M3 q3 sP VTP
  subst hZP
  have VL4 := veil (msgAt M.out.lay (List.mem_cons_of_mem _ List.mem_cons_self) VG.out.f).all
  go_wp2_with (first
    | (refine wpList_store_of rfl (.tmp 5) (.tmp 17) rfl rfl rfl VS3.out ?_; (try simp only [Act.put, List.setIfInBounds_toArray, List.set_cons_zero, List.set_cons_succ]))
    | (refine wpList_load_of rfl (.tmp 3) rfl rfl VL4.out ?_; (try simp only [Act.put, List.setIfInBounds_toArray, List.set_cons_zero, List.set_cons_succ])))
  clear VS3 VL4
  generalize w2.heap.size = gq at *
  refine (VTM.out _ M.out.below).mono ?_
  rintro e w4 ⟨q, go, gs, gr, lo, lr, rfl, tm, qb⟩
  have M := veil (M.out.keep qb)
  have tp4 := Row.keep tp3.out qb
  obtain ⟨ZM, hZM⟩ : ∃ Z : Array Value, Z = #[.int .u8 0, .int .u8 0, .int .u32 0, .slice none 0 0, .int .u8 0, .int .u8 0, .int .u16 0, .int .u32 0, .int .u32 0, .int .u8 0, .int .u8 0, .int .u8 0, .int .u8 0, .int .u8 0, .int .u8 0, .int .u8 0, .int .u8 0, .int .u8 0, .int .u8 0, .int .u8 0, .int .u8 0, .int .u8 0, .int .u8 0, .int .u8 0, .int .u8 0, .int .u8 0, .int .u8 0, .int .u8 0, .int .u8 0, .int .u8 0, .int .u8 0, .int .u8 0, .int .u8 0, .int .u8 0, .int .u8 0, .int .u8 0, .int .u8 0, .int .u8 0, .int .u8 0, .int .u8 0, .int .u8 0, .slice none 0 0, .int .u16 0, .int .u8 0, .int .u8 0, .int .u8 0, .int .u8 0, .int .u8 0, .int .u8 0, .int .u8 0, .int .u8 0, .int .u8 0, .int .u8 0, .int .u8 0, .int .u8 0, .int .u8 0, .int .u8 0, .int .u8 0, .int .u8 0, .int .u8 0, .int .u8 0, .slice none 0 0, .slice none 0 0] := ⟨_, rfl⟩
  have sM : ZM.size = 63 := by rw [hZM]; rfl
  have FT := veil (mf_fine (zs := zs) (os := os) (az := az) (rs := rs) (f := (tf q go gs gr zs os az rs)) VF0.out)
  obtain ⟨w5, S5, M5, q5⟩ := fresh2 (P := Tryd.prog) M.out ZM 35 (mc (mf m zs os az rs (tf q go gs gr zs os az rs))) (by rw [sM, mc_len FT.out]) (sizeMsg FT.out) (mc_one FT.out)
  have TP := veil (Row.keep tp4 q5)
  have TM := veil (tm.keep q5)
  have VS5 := veil S5
  have M := veil M5
  clear qb tp3 tp4 tm S5 M5 q5 sM VTM
  subst hZM
  go_upto_region 5 with (first
    | (refine wpList_store_of rfl (.tmp 6) (.tmp 19) rfl rfl rfl VS5.out ?_; (try simp only [Act.put, List.setIfInBounds_toArray, List.set_cons_zero, List.set_cons_succ])))
  clear VS5
  generalize w4.heap.size = gn at *
  have M := veil M.out.drew
  have TP := veil (show TwinAt w5.drew g ys from TP.out)
  have TM := veil (tm_drew TM.out)
  have ip := veil (sizePkt (v := .slice A n c) VG.out.ends)
  have iq := veil (sizePkt (v := (.slice (some ⟨g, 0, none⟩) n (n + 4))) VG.out.ends)
  have im := veil (sizeMsg VG.out.f)
  have it := veil (sizeMsg FT.out)
  refine wp_region_noPanic ?_
  refine wp_region_held_drew (S := (fun w' => ∀ x ∈ [(gn, (35, mc (mf m zs os az rs (tf q go gs gr zs os az rs)))), (gq, (30, pc k (.slice (some ⟨g, 0, none⟩) n (n + 4)))), (w.heap.size + 1, (35, mc mm)), (w.heap.size, (30, pc k (.slice A n c)))], w'.rangeAt x.1 0 x.2.2)) (by kernel_rfl) M.out.rng (fun hHeld => ?_)
  refine wpAnyH_take (i := 0) (v := _) (by rfl) (by kernel_rfl) (by kernel_rfl) (by kernel_rfl) (fun _ _ _ h => h) (yieldsIf_load_mid (by rfl) _ _ (by rfl) _ _ rfl (pc k (.slice (some ⟨g, 0, none⟩) n (n + 4))) _ (fun _ h => h _ (List.mem_cons_of_mem _ List.mem_cons_self)) Tryd.underlying30 rfl iq.out) hHeld ?_
  try simp only [Act.put, List.setIfInBounds_toArray, List.set_cons_zero, List.set_cons_succ, List.getElem_toArray, List.getElem_cons_zero, List.getElem_cons_succ]
  refine wpAnyH_take (i := 1) (v := _) (by rfl) (by kernel_rfl) (by kernel_rfl) (by kernel_rfl) (fun _ _ _ h => h) (yieldsIf_load_mid (by rfl) _ _ (by rfl) _ _ rfl (mc (mf m zs os az rs (tf q go gs gr zs os az rs))) _ (fun _ h => h _ List.mem_cons_self) Tryd.underlying35 rfl it.out) hHeld ?_
  try simp only [Act.put, List.setIfInBounds_toArray, List.set_cons_zero, List.set_cons_succ, List.getElem_toArray, List.getElem_cons_zero, List.getElem_cons_succ]
  refine wpAnyH_take (i := 3) (v := _) (by rfl) (by kernel_rfl) (by kernel_rfl) (by kernel_rfl) (fun _ _ _ h => h) (yieldsIf_load_mid (by rfl) _ _ (by rfl) _ _ rfl (pc k (.slice A n c)) _ (fun _ h => h _ (List.mem_cons_of_mem _ (List.mem_cons_of_mem _ (List.mem_cons_of_mem _ List.mem_cons_self)))) Tryd.underlying30 rfl ip.out) hHeld ?_
  try simp only [Act.put, List.setIfInBounds_toArray, List.set_cons_zero, List.set_cons_succ, List.getElem_toArray, List.getElem_cons_zero, List.getElem_cons_succ]
  refine wpAnyH_take (i := 4) (v := _) (by rfl) (by kernel_rfl) (by kernel_rfl) (by kernel_rfl) (fun _ _ _ h => h) (yieldsIf_load_mid (by rfl) _ _ (by rfl) _ _ rfl (mc mm) _ (fun _ h => h _ (List.mem_cons_of_mem _ (List.mem_cons_of_mem _ List.mem_cons_self))) Tryd.underlying35 rfl im.out) hHeld ?_
  try simp only [Act.put, List.setIfInBounds_toArray, List.set_cons_zero, List.set_cons_succ, List.getElem_toArray, List.getElem_cons_zero, List.getElem_cons_succ]
  refine wpAnyH_ready (rs := [2]) (by kernel_rfl) (by simp) ?_
  refine AllReadyH.cons (by rfl) (fun K hK => ?_) AllReadyH.nil
  simp only [List.getElem_toArray, List.getElem_cons_zero, List.getElem_cons_succ]
  go_simp
  refine (VV1.out _ g _ q go gs gr lo lr M.out.knw TM.out).mono ?_
  rintro e w6 ⟨rfl, qq⟩
  have M := veil (M.out.keep qq)
  have TP := veil (Row.keep TP.out qq)
  have TM := veil (TM.out.keep qq)
  clear qq
  (try dsimp only)
  refine hK.out _ _ M.out.rng (fun hHeld => ?_)
  clear hK K
  try simp only [Act.put, List.setIfInBounds_toArray, List.set_cons_zero, List.set_cons_succ, List.getElem_toArray, List.getElem_cons_zero, List.getElem_cons_succ]
  refine wpAnyH_ready (rs := [5]) (by kernel_rfl) (by simp) ?_
  refine AllReadyH.cons (by rfl) (fun K hK => ?_) AllReadyH.nil
  simp only [List.getElem_toArray, List.getElem_cons_zero, List.getElem_cons_succ]
  go_simp
  refine (VV2.out _ M.out.knw M.out.below).mono ?_
  rintro e w7 ⟨rfl, qq⟩
  have M := veil (M.out.keep qq)
  have TP := veil (Row.keep TP.out qq)
  have TM := veil (TM.out.keep qq)
  clear qq
  (try dsimp only)
  refine hK.out _ _ M.out.rng (fun hHeld => ?_)
  clear hK K
  try simp only [Act.put, List.setIfInBounds_toArray, List.set_cons_zero, List.set_cons_succ, List.getElem_toArray, List.getElem_cons_zero, List.getElem_cons_succ]
  refine wpAnyH_take (i := 6) (v := ?_) (by rfl) (by kernel_rfl) (by kernel_rfl) (by kernel_rfl) (fun _ _ _ h => h) (Or.inl ⟨by rfl, ?_⟩) hHeld ?_
  rotate_left
  · intro w' hSw
    (try dsimp only at hSw)
    simp only [List.getElem_toArray, List.getElem_cons_zero, List.getElem_cons_succ]
    go_simp
    all_goals (try with_reducible rfl)
  try simp only [Act.put, List.setIfInBounds_toArray, List.set_cons_zero, List.set_cons_succ, List.getElem_toArray, List.getElem_cons_zero, List.getElem_cons_succ]
  refine wpAnyH_take (i := 7) (v := ?_) (by rfl) (by kernel_rfl) (by kernel_rfl) (by kernel_rfl) (fun _ _ _ h => h) (Or.inl ⟨by rfl, ?_⟩) hHeld ?_
  rotate_left
  · intro w' hSw
    (try dsimp only at hSw)
    simp only [List.getElem_toArray, List.getElem_cons_zero, List.getElem_cons_succ]
    go_simp
    all_goals (try with_reducible rfl)
  try simp only [Act.put, List.setIfInBounds_toArray, List.set_cons_zero, List.set_cons_succ, List.getElem_toArray, List.getElem_cons_zero, List.getElem_cons_succ]
  refine wpAnyH_take (i := 8) (v := _) (by rfl) (by kernel_rfl) (by kernel_rfl) (by kernel_rfl) (fun _ _ _ h => h) (yieldsIf_load_mid (by rfl) _ _ (by rfl) _ _ rfl (pc k (.slice (some ⟨g, 0, none⟩) n (n + 4))) _ (fun _ h => h _ (List.mem_cons_of_mem _ List.mem_cons_self)) Tryd.underlying30 rfl iq.out) hHeld ?_
  try simp only [Act.put, List.setIfInBounds_toArray, List.set_cons_zero, List.set_cons_succ, List.getElem_toArray, List.getElem_cons_zero, List.getElem_cons_succ]
  refine wpAnyH_take (i := 9) (v := _) (by rfl) (by kernel_rfl) (by kernel_rfl) (by kernel_rfl) (fun _ _ _ h => h) (yieldsIf_load_mid (by rfl) _ _ (by rfl) _ _ rfl (pc k (.slice A n c)) _ (fun _ h => h _ (List.mem_cons_of_mem _ (List.mem_cons_of_mem _ (List.mem_cons_of_mem _ List.mem_cons_self)))) Tryd.underlying30 rfl ip.out) hHeld ?_
  try simp only [Act.put, List.setIfInBounds_toArray, List.set_cons_zero, List.set_cons_succ, List.getElem_toArray, List.getElem_cons_zero, List.getElem_cons_succ]
  refine wpAnyH_ready (rs := [10]) (by kernel_rfl) (by simp) ?_
  refine AllReadyH.cons (by rfl) (fun K hK => ?_) AllReadyH.nil
  simp only [List.getElem_toArray, List.getElem_cons_zero, List.getElem_cons_succ]
  go_simp
  refine (VLP.out _ g M.out.below TP.out).mono ?_
  rintro e w8 ⟨rfl, qq⟩
  have M := veil (M.out.keep qq)
  have TP := veil (Row.keep TP.out qq)
  have TM := veil (TM.out.keep qq)
  clear qq
  (try dsimp only)
  refine hK.out _ _ M.out.rng (fun hHeld => ?_)
  clear hK K
  try simp only [Act.put, List.setIfInBounds_toArray, List.set_cons_zero, List.set_cons_succ, List.getElem_toArray, List.getElem_cons_zero, List.getElem_cons_succ]
  refine wpAnyH_take (i := 11) (v := ?_) (by rfl) (by kernel_rfl) (by kernel_rfl) (by kernel_rfl) (fun _ _ _ h => h) (Or.inl ⟨by rfl, ?_⟩) hHeld ?_
  rotate_left
  · intro w' hSw
    (try dsimp only at hSw)
    simp only [List.getElem_toArray, List.getElem_cons_zero, List.getElem_cons_succ]
    go_simp
    all_goals (try with_reducible rfl)
  try simp only [Act.put, List.setIfInBounds_toArray, List.set_cons_zero, List.set_cons_succ, List.getElem_toArray, List.getElem_cons_zero, List.getElem_cons_succ]
  refine wpAnyH_take (i := 12) (v := ?_) (by rfl) (by kernel_rfl) (by kernel_rfl) (by kernel_rfl) (fun _ _ _ h => h) (Or.inl ⟨by rfl, ?_⟩) hHeld ?_
  rotate_left
  · intro w' hSw
    (try dsimp only at hSw)
    simp only [List.getElem_toArray, List.getElem_cons_zero, List.getElem_cons_succ]
    go_simp
    all_goals (try with_reducible rfl)
  try simp only [Act.put, List.setIfInBounds_toArray, List.set_cons_zero, List.set_cons_succ, List.getElem_toArray, List.getElem_cons_zero, List.getElem_cons_succ]
  refine wpAnyH_take (i := 13) (v := _) (by rfl) (by kernel_rfl) (by kernel_rfl) (by kernel_rfl) (fun _ _ _ h => h) (yieldsIf_load_mid (by rfl) _ _ (by rfl) _ _ rfl (mc (mf m zs os az rs (tf q go gs gr zs os az rs))) _ (fun _ h => h _ List.mem_cons_self) Tryd.underlying35 rfl it.out) hHeld ?_
  try simp only [Act.put, List.setIfInBounds_toArray, List.set_cons_zero, List.set_cons_succ, List.getElem_toArray, List.getElem_cons_zero, List.getElem_cons_succ]
  refine wpAnyH_take (i := 14) (v := _) (by rfl) (by kernel_rfl) (by kernel_rfl) (by kernel_rfl) (fun _ _ _ h => h) (yieldsIf_load_mid (by rfl) _ _ (by rfl) _ _ rfl (mc mm) _ (fun _ h => h _ (List.mem_cons_of_mem _ (List.mem_cons_of_mem _ List.mem_cons_self))) Tryd.underlying35 rfl im.out) hHeld ?_
  try simp only [Act.put, List.setIfInBounds_toArray, List.set_cons_zero, List.set_cons_succ, List.getElem_toArray, List.getElem_cons_zero, List.getElem_cons_succ]
  refine wpAnyH_ready (rs := [15]) (by kernel_rfl) (by simp) ?_
  refine AllReadyH.cons (by rfl) (fun K hK => ?_) AllReadyH.nil
  simp only [List.getElem_toArray, List.getElem_cons_zero, List.getElem_cons_succ]
  go_simp
  refine (VLM.out _ _ q go gs gr lo lr M.out.below TM.out).mono ?_
  rintro e w9 ⟨rfl, qq⟩
  have M := veil (M.out.keep qq)
  have TP := veil (Row.keep TP.out qq)
  have TM := veil (TM.out.keep qq)
  clear qq
  (try dsimp only)
  refine hK.out _ _ M.out.rng (fun hHeld => ?_)
  clear hK K
  try simp only [Act.put, List.setIfInBounds_toArray, List.set_cons_zero, List.set_cons_succ, List.getElem_toArray, List.getElem_cons_zero, List.getElem_cons_succ]
  refine wpAnyH_take (i := 16) (v := ?_) (by rfl) (by kernel_rfl) (by kernel_rfl) (by kernel_rfl) (fun _ _ _ h => h) (Or.inl ⟨by rfl, ?_⟩) hHeld ?_
  rotate_left
  · intro w' hSw
    (try dsimp only at hSw)
    simp only [List.getElem_toArray, List.getElem_cons_zero, List.getElem_cons_succ]
    go_simp
    all_goals (try with_reducible rfl)
  try simp only [Act.put, List.setIfInBounds_toArray, List.set_cons_zero, List.set_cons_succ, List.getElem_toArray, List.getElem_cons_zero, List.getElem_cons_succ]
  refine wpAnyH_take (i := 17) (v := ?_) (by rfl) (by kernel_rfl) (by kernel_rfl) (by kernel_rfl) (fun _ _ _ h => h) (Or.inl ⟨by rfl, ?_⟩) hHeld ?_
  rotate_left
  · intro w' hSw
    (try dsimp only at hSw)
    simp only [List.getElem_toArray, List.getElem_cons_zero, List.getElem_cons_succ]
    go_simp
    all_goals (try with_reducible rfl)
  try simp only [Act.put, List.setIfInBounds_toArray, List.set_cons_zero, List.set_cons_succ, List.getElem_toArray, List.getElem_cons_zero, List.getElem_cons_succ]
  refine wpAnyH_ready (rs := [18]) (by kernel_rfl) (by simp) ?_
  refine AllReadyH.cons (by rfl) (fun K hK => ?_) AllReadyH.nil
  simp only [List.getElem_toArray, List.getElem_cons_zero, List.getElem_cons_succ]
  go_simp
  refine (lives_true _ M.out.knw).mono ?_
  rintro e w10 ⟨rfl, qq⟩
  have M := veil (M.out.keep qq)
  have TP := veil (Row.keep TP.out qq)
  have TM := veil (TM.out.keep qq)
  clear qq
  (try dsimp only)
  refine hK.out _ _ M.out.rng (fun hHeld => ?_)
  clear hK K
  try simp only [Act.put, List.setIfInBounds_toArray, List.set_cons_zero, List.set_cons_succ, List.getElem_toArray, List.getElem_cons_zero, List.getElem_cons_succ]
  refine wpAnyH_take (i := 19) (v := ?_) (by rfl) (by kernel_rfl) (by kernel_rfl) (by kernel_rfl) (fun _ _ _ h => h) (Or.inl ⟨by rfl, ?_⟩) hHeld ?_
  rotate_left
  · intro w' hSw
    (try dsimp only at hSw)
    simp only [List.getElem_toArray, List.getElem_cons_zero, List.getElem_cons_succ]
    go_simp
    all_goals (try with_reducible rfl)
  try simp only [Act.put, List.setIfInBounds_toArray, List.set_cons_zero, List.set_cons_succ, List.getElem_toArray, List.getElem_cons_zero, List.getElem_cons_succ]
  refine wpAnyH_take (i := 20) (v := ?_) (by rfl) (by kernel_rfl) (by kernel_rfl) (by kernel_rfl) (fun _ _ _ h => h) (Or.inl ⟨by rfl, ?_⟩) hHeld ?_
  rotate_left
  · intro w' hSw
    (try dsimp only at hSw)
    simp only [List.getElem_toArray, List.getElem_cons_zero, List.getElem_cons_succ]
    go_simp
    all_goals (try with_reducible rfl)
  try simp only [Act.put, List.setIfInBounds_toArray, List.set_cons_zero, List.set_cons_succ, List.getElem_toArray, List.getElem_cons_zero, List.getElem_cons_succ]
  refine wpAnyH_done (by kernel_rfl) ?_ _
  refine NoPanic.normal ?_
  clear hHeld
  go_wp2_with fail
  go_ret
  exact ⟨rfl, M.out.below⟩

theorem own : ownKnob Tryd.prog.godebug = none := by kernel_rfl
theorem readable : ∀ t ∈ Tryd.f3.params.toList, Tryd.prog.readableRec t = true ∧ t < Tryd.prog.types.size := by
  rw [Tryd.params3]
  intro t ht
  simp at ht
  rcases ht with rfl | rfl
  · exact ⟨by kernel_rfl, of_decide_eq_true (by kernel_rfl)⟩
  · exact ⟨by kernel_rfl, of_decide_eq_true (by kernel_rfl)⟩

set_option maxRecDepth 100000 in
theorem lifted (os : Os) (started : os.Started) (H : Type) (enc : TypeId × Value → H) :
    ReturnsInHanded {} Tryd.checked os 3 .any (fun w args => (Rows.checksValidSpec.pre enc Tryd.prog Tryd.f3 [] false w args ∧ laidMetH Tryd.prog laid1 w) ∧ sizedMet enc Tryd.prog Tryd.f3 (OpenSpec.ofChange Rows.checksValidSpec) false w args)
      (Rows.checksValidSpec.post enc Tryd.prog Tryd.f3 false true false false) := by
  refine returnsInHanded_of_change_and (C := Tryd.checked) (X := fun w _ => laidMetH Tryd.prog laid1 w) (fun _ _ _ hh h => h.of_heap hh) own started (by kernel_rfl) Tryd.func3
    (ChangeSpec.witness_shaped (enc := enc) (C := Tryd.checked) (os := os) (X := fun w _ => laidMetH Tryd.prog laid1 w) false (World.doorLaid Tryd.prog 400 os) #[.agg #[.int .u8 0, .int .u8 0, .int .u8 0, .int .u8 0, .int .u8 0, .int .u8 0, .int .u8 0, .int .u8 0, .int .u8 0, .int .u8 0, .int .u8 0, .int .u8 0, .int .u8 0, .int .u8 0, .int .u8 0, .int .u8 0, .int .u8 0, .int .u8 0, .int .u8 0, .int .u8 0, .int .u8 0, .int .u8 0, .int .u8 0, .int .u8 0, .int .u8 0, .int .u8 0, .int .u8 0, .int .u8 0, .int .u8 0, .int .u8 0, .int .u8 0, .int .u8 0, .int .u8 0, .bool false, .bool false, .int .u32 0, .int .u16 0, .bool false, .int .u8 0, .slice none 0 0], .agg #[.int .u8 0, .int .u8 0, .int .u32 0, .slice none 0 0, .int .u8 0, .int .u8 0, .int .u16 0, .int .u32 0, .int .u32 0, .int .u8 0, .int .u8 0, .int .u8 0, .int .u8 0, .int .u8 0, .int .u8 0, .int .u8 0, .int .u8 0, .int .u8 0, .int .u8 0, .int .u8 0, .int .u8 0, .int .u8 0, .int .u8 0, .int .u8 0, .int .u8 0, .int .u8 0, .int .u8 0, .int .u8 0, .int .u8 0, .int .u8 0, .int .u8 0, .int .u8 0, .int .u8 0, .int .u8 0, .int .u8 0, .int .u8 0, .int .u8 0, .int .u8 0, .int .u8 0, .int .u8 0, .int .u8 0, .slice none 0 0, .int .u16 0, .int .u8 0, .int .u8 0, .int .u8 0, .int .u8 0, .int .u8 0, .int .u8 0, .int .u8 0, .int .u8 0, .int .u8 0, .int .u8 0, .int .u8 0, .int .u8 0, .int .u8 0, .int .u8 0, .int .u8 0, .int .u8 0, .int .u8 0, .int .u8 0, .slice none 0 0, .slice none 0 0]] 8 rfl (World.shaped_of_RefB (by kernel_rfl) (by kernel_rfl)) (by kernel_rfl) (by kernel_rfl) (by kernel_rfl) (door_met os _)) ?_
  intro W base args ds gs before hval0 hW _ hsz0 hL _
  have hval : ∀ (j : Nat) t v, Tryd.f3.params[j]? = some t → args[j]? = some v → Value.okWide Tryd.prog W .any base t v := hval0
  have hW' := hW
  obtain ⟨p, q, hA0, hV, rfl, _, _⟩ := hW
  have hA : DataW.TrodAll enc Tryd.prog W 0 (fun _ => true) true Tryd.f3.params.toList args.toList ds p := hA0
  rw [Tryd.params3] at hA hval
  obtain ⟨v0, vs0, d0, ds0, p0, q0, hargs, rfl, rfl, h0, r0⟩ := trodAll_cons hA
  obtain ⟨v1, vs1, d1, ds1, p1, q1, rfl, rfl, rfl, h1, r1⟩ := trodAll_cons r0
  obtain ⟨rfl, rfl, rfl⟩ := trodAll_nil r1
  obtain rfl : args = #[v0, v1] := by cases args; simp_all
  obtain ⟨rfl, rfl⟩ := trodVars_none hV
  have hk := knw_of_laid hL
  obtain ⟨k, A, n, c, ys, rfl, FP⟩ := open_packet (hval 0 30 v0 rfl rfl) (opens_arg h0 (slim_of hsz0 (j := 0) rfl rfl))
  obtain ⟨m, zs, os, az, rs, rfl, HI⟩ := open_message (hval 1 35 v1 rfl rfl) (opens_arg h1 (slim_of hsz0 (j := 1) rfl rfl))
  have hw : Calls Tryd.prog 3 #[pv k (.slice A n c), mv m] W fun e w' => e = .returned (.bool true) ∧ Below W.heap.size W w' := by
    have G := gd_in FP HI
    by_cases hn : 6000 < n
    · exact walk_more k A n c m W hk FP.m hn
    · cases hg : great zs os az rs with
      | true => exact walk_great k A n c m zs os az rs W hk G HI hn hg
      | false =>
        obtain ⟨f, hm, hr⟩ := HI.four
        exact walk k A n c ys m m zs os az rs f W hk G HI hn FP HI.f hm.symm hr hg
  refine hw.mono fun e W' ⟨he, hb⟩ => ?_
  subst he
  exact ⟨_, rfl, law_post (by kernel_rfl) rfl rfl Tryd.underlying4 readable hW' rfl hb⟩

/-- ChecksValid: the row, as given -/
theorem row : Rows.ChecksValidSaid :=
  OpenClaim.holds_of_wide 3 Tryd.f3 rfl rfl rfl rfl rfl rfl rfl ⟨rfl, rfl, rfl, rfl, rfl⟩ rfl rfl rfl rfl rfl (by kernel_rfl) Tryd.func3 (by kernel_rfl)
    (of_decide_eq_true (by kernel_rfl)) (by unfold Func.isWrapper; first | (rw [if_pos (by decide +kernel)]; kernel_rfl) | (rw [if_neg (by decide +kernel)]; exact ⟨rfl, rfl⟩))
    (fun os started H enc _ => lifted os started H enc)

/-- ChecksValid: the tied card, as given -/
theorem holds : Rows.ChecksValidCardSaid :=
  Claim7.holds_tied_plain_at .later [] [.data] true Rows.checksValidCard.stood.harness false
    row (fun _ h => by cases h) (by kernel_rfl) (fun _ h => by cases h) checksValid_row_tie rfl ⟨rfl, rfl⟩ (by kernel_rfl) rfl
    (fun f fn hf hfn => by
      obtain rfl : f = 3 := Option.some.inj ((show Tryd.prog.funcNamed "sojourner/sojournerlaw12.ChecksValid" = some 3 by kernel_rfl).symm.trans hf) |>.symm
      obtain rfl : fn = Tryd.f3 := (Option.some.inj (Tryd.func3.symm.trans hfn)).symm
      exact ⟨by kernel_rfl, fun j t ht => by
        rw [Tryd.params3] at ht
        have hm : t ∈ [30, 35] := by simpa using Array.mem_of_getElem? ht
        have hall : ([30, 35].all fun u => !Tryd.prog.wantsStandIn u) = true := by kernel_rfl
        exact (show Tryd.prog.wantsStandIn t = false by simpa using List.all_eq_true.1 hall t hm)⟩)
    (by kernel_rfl)

#print axioms holds
end Go.Proofs.YthkiamkhignchaaDoor.checksValid
