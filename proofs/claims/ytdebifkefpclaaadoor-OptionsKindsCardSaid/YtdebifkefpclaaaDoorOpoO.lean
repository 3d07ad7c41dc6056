/-
  Mac, Prefix, MtuOf, ServersOf of the code, whatever option they are handed.
  Conditions: data that read as bytes, at most 16000000.
-/
import Derived.Test.YtdebifkefpclaaaDoorOpoV
import Derived.BigQuiet
namespace Go.Proofs.YtdebifkefpclaaaDoor.Oz
set_option maxRecDepth 100000
open Go.RowKit Ops

/-- what a call made, beside what was there -/
theorem _root_.Go.Proofs.YtdebifkefpclaaaDoor.Lay.join {w0 w1 w2 : World} {L E : List Blk} (h : Lay w0 w1 L) (k : Lay w1 w2 E) : Lay w0 w2 (L ++ E) := by
  have h2 := h.keep k.below
  refine ⟨fun x hx => (List.mem_append.1 hx).elim (h2.row x) (k.row x), fun x hx => (List.mem_append.1 hx).elim (h2.own x) (fun e => Nat.le_trans h.size (k.own x e)), ?_, h2.below⟩
  rw [List.map_append, List.nodup_append]
  refine ⟨h2.nd, k.nd, fun a ha b hb e => ?_⟩
  obtain ⟨x, hx, rfl⟩ := List.mem_map.1 ha
  obtain ⟨y, hy, rfl⟩ := List.mem_map.1 hb
  have h1 := (h.row x hx).lt
  have h3 := k.own y hy
  omega
theorem ans_mem {ok : Bool} {V : List Blk → List Value → Prop} {Z R : List Value} {E : List Blk} {n : Nat} (h : Ans ok V Z E R) (hV : ∀ E R, V E R → R.length = n ∧ ∀ v ∈ R, v.oneCell' = true) (hZ : Z.length = n ∧ ∀ v ∈ Z, v.oneCell' = true) : R.length = n ∧ ∀ v ∈ R, v.oneCell' = true := by
  cases ok
  · obtain ⟨_, rfl⟩ := h
    exact hZ
  · exact hV E R h
abbrev s0 (zs : List Int) : St := some (0, zs.length)
theorem ok0 (zs : List Int) : okS zs (s0 zs) := by simp [okS]
abbrev macV (zs : List Int) (E : List Blk) (R : List Value) : Prop := E = [] ∧ R = bv (padV 6 (cutV zs (s0 zs) 6))
abbrev preV (zs : List Int) (E : List Blk) (R : List Value) : Prop := E = [] ∧ R = pic (prefV zs (s0 zs))
abbrev serN (zs : List Int) : Nat := leftS (numS6 (s0 zs)) / 16
abbrev serV (zs : List Int) (E : List Blk) (R : List Value) : Prop := ∃ gl, E = [(gl, 49, bv (rdA zs (numS6 (s0 zs)) (serN zs)).flatten)] ∧ R = [.int .u32 (num6 zs (s0 zs)), .slice (some ⟨gl, 0, none⟩) (serN zs) (serN zs)]
def macB (k : Int) (n : Nat) : Bool := (decide (k = 1) || decide (k = 2)) && decide (n = 6)
def preB (k : Int) (zs : List Int) : Bool := decide (k = 3) && decide (num (cutV zs (s0 zs) 1) ≤ 128) && decide (zs.length = 30)
def mtuB (k : Int) (n : Nat) : Bool := decide (k = 5) && decide (n = 6)
def serOk (k : Int) (n : Nat) : Bool := decide (k = 25) && (decide (22 ≤ n) && decide ((n - 6) % 16 = 0))
theorem all_mac (zs : List Int) : allS (nextS (s0 zs) 6) = decide (zs.length = 6) := allS_adv [6] 0 zs.length
theorem all_pre (zs : List Int) : allS (st6 (s0 zs)) = decide (zs.length = 30) := allS_adv [1, 1, 4, 4, 4, 16] 0 zs.length
theorem all_num (zs : List Int) : allS (numS6 (s0 zs)) = decide (zs.length = 6) := allS_adv [2, 4] 0 zs.length
theorem nextA_adv : ∀ (k : Nat) (s : St), nextA s k = adv s (List.replicate k 16) := by
  have h : ∀ (k : Nat) (s : St), nextS (adv s (List.replicate k 16)) 16 = adv (nextS s 16) (List.replicate k 16) := fun k => by
    induction k with
    | zero => intro s; rfl
    | succ k ih => intro s; exact ih (nextS s 16)
  intro k
  induction k with
  | zero => intro s; rfl
  | succ k ih =>
    intro s
    show nextS (nextA s k) 16 = _
    rw [ih s, h k s]
    rfl
theorem sum16 : ∀ k : Nat, (List.replicate k 16).sum = 16 * k
  | 0 => rfl
  | k + 1 => by rw [List.replicate_succ, List.sum_cons, sum16 k]; omega
theorem all_ser (zs : List Int) : (decide (0 < leftS (numS6 (s0 zs)) / 16) && allS (nextA (numS6 (s0 zs)) (leftS (numS6 (s0 zs)) / 16))) = (decide (22 ≤ zs.length) && decide ((zs.length - 6) % 16 = 0)) := by
  obtain ⟨h1, h2⟩ := adv_some [2, 4] 0 zs.length
  have e0 : numS6 (s0 zs) = adv (some (0, zs.length)) [2, 4] := rfl
  have hs : [2, 4].sum = 6 := rfl
  rw [hs] at h1 h2
  by_cases h : 6 ≤ zs.length
  · obtain ⟨o', e⟩ := h1 h
    rw [e0, e, nextA_adv, allS_adv]
    show (decide (0 < (zs.length - 6) / 16) && decide (zs.length - 6 = (List.replicate ((zs.length - 6) / 16) 16).sum)) = _
    rw [sum16, ← Bool.decide_and, ← Bool.decide_and]
    refine decide_eq_decide.2 ?_
    omega
  · rw [e0, h2 (by omega)]
    have : ¬ 22 ≤ zs.length := by omega
    simp [leftS, this]

set_option linter.unusedSimpArgs false in
set_option maxHeartbeats 16000000 in
theorem mac_any (x : El) (zs : List Int) (w : World) (hs : Slc w x.v zs) (_hz : Byt zs) (hn : zs.length ≤ 16000000) :
    Calls Tryd.prog 46 #[ov x] w fun e w' => ∃ E R, Ans (macB x.k zs.length) (macV zs) [.int .u8 0, .int .u8 0, .int .u8 0, .int .u8 0, .int .u8 0, .int .u8 0] E R ∧ e = .returned (.tuple #[.agg R.toArray, .bool (macB x.k zs.length)]) ∧ Lay w w' E := by
  obtain ⟨Z1, hZ1⟩ : ∃ Z : Array Value, Z = #[.int .u8 0, .int .u8 0, .int .u8 0, .int .u8 0, .int .u8 0, .int .u8 0] := ⟨_, rfl⟩
  have hz1 : Z1.toList = [.int .u8 0, .int .u8 0, .int .u8 0, .int .u8 0, .int .u8 0, .int .u8 0] := by rw [hZ1]
  have Y0 := ((Lay.begin w).new (tv x) 29 (g := w.heap.size) rfl).newA Z1 47 (g := w.heap.size + 1) (by simp)
  rw [hz1] at Y0
  obtain ⟨u0, hu0⟩ : ∃ u, (w.alloc (.cells (tv x).toArray 29)).alloc (.cells Z1 47) = u := ⟨_, rfl⟩
  rw [hu0] at Y0
  have hZ : Hid (([.int .u8 0, .int .u8 0, .int .u8 0, .int .u8 0, .int .u8 0, .int .u8 0] : List Value).length = 6 ∧ ∀ v ∈ ([.int .u8 0, .int .u8 0, .int .u8 0, .int .u8 0, .int .u8 0, .int .u8 0] : List Value), v.oneCell' = true) := veil ⟨rfl, by intro v hv; simp at hv; first | (subst hv; rfl) | (rcases hv with rfl | rfl <;> rfl) | (rcases hv with rfl | rfl | rfl <;> rfl)⟩
  obtain ⟨k, A, n, c⟩ := x
  have L1 := veil (Y0.load (P := Tryd.prog) (ty := 29) (vs := tv ⟨k, A, n, c⟩) mem1 (part_all _) Tryd.underlying29 rfl zeroO)
  have c0 := Y0.look mem1 (o := 0) (v := .int .u8 k) rfl
  have HRD : Hid (Reads1 84 u0 zs (true) (nextS (s0 zs) 6) (fun E u => ∃ R, u = .agg R.toArray ∧ (macV zs) E R)) := veil (fun w1 L i g b hL hi hb hne => (readMac_any hL hi hb (ok0 zs)).mono fun e w' ⟨he, hl⟩ => ⟨[], _, ⟨_, rfl, rfl, rfl⟩, he, by simpa using hl⟩)
  subst hZ1
  rcases (by omega : k = 1 ∨ k = 2 ∨ (¬ k = 1 ∧ ¬ k = 2)) with rfl | rfl | hk
  · have hright : Hid ((macB 1 zs.length) = (true && true && allS (nextS (s0 zs) 6))) := veil (by unfold macB; rw [all_mac]; simp)
    rw [hright.out]
    have KT := veil (toldMac ⟨1, A, n, c⟩ zs true (true) (nextS (s0 zs) 6) (macV zs) u0 (hs.keep Y0.below) hn (fun E R h => by obtain ⟨_, rfl⟩ := h; exact ⟨by rw [bv_length, padV_len], bv_one _⟩) HRD.out)
    have VY0 := veil Y0
    have HVV : Hid (∀ E R, (macV zs) E R → R.length = 6 ∧ ∀ v ∈ R, v.oneCell' = true) := veil (fun E R h => by obtain ⟨_, rfl⟩ := h; exact ⟨by rw [bv_length, padV_len], bv_one _⟩)
    skip
    clear hright hs Y0 HRD
    go_enter Tryd.func46, Tryd.ntmps46
    go_wp2_with (refine wpList_load_of rfl (.tmp 1) rfl rfl L1.out ?_)
    refine (KT.out).mono ?_
    rintro e w3 ⟨E, R, hA, rfl, Y3⟩
    obtain ⟨hl, h1⟩ := ans_mem hA HVV.out hZ.out
    have Y4 := VY0.out.join Y3
    simp only [List.cons_append, List.nil_append] at Y4
    have hsR : Hid ((Tryd.prog.info? 47).map (·.size) = some R.length) := veil (by rw [hl]; kernel_rfl)
    have T3 := veil (store_all (P := Tryd.prog) (ty := 47) (vs := R) (Y4.at mem0) (by rw [hl]; rfl) hsR.out h1)
    have Y5 := Y4.put 0 rfl R
    simp only [List.set_cons_zero] at Y5
    have VY5 := veil Y5
    have HA := veil hA
    clear KT VY0 hA Y3 Y4 Y5 hl h1 L1
    go_wp2_with (refine wpList_store_of rfl _ _ rfl rfl rfl T3.out ?_)
    refine bodyPost_ret (ret_row_tmp rfl rfl rfl (VY5.out.range mem0 (part_all _)) Tryd.underlying47 rfl hsR.out) rfl ?_
    exact ⟨E, R, HA.out, rfl, VY5.out.sub (List.Sublist.cons _ (List.Sublist.cons _ (List.Sublist.refl _)))⟩
  · have hright : Hid ((macB 2 zs.length) = (true && true && allS (nextS (s0 zs) 6))) := veil (by unfold macB; rw [all_mac]; simp)
    rw [hright.out]
    have KT := veil (toldMac ⟨2, A, n, c⟩ zs true (true) (nextS (s0 zs) 6) (macV zs) u0 (hs.keep Y0.below) hn (fun E R h => by obtain ⟨_, rfl⟩ := h; exact ⟨by rw [bv_length, padV_len], bv_one _⟩) HRD.out)
    have VY0 := veil Y0
    have HVV : Hid (∀ E R, (macV zs) E R → R.length = 6 ∧ ∀ v ∈ R, v.oneCell' = true) := veil (fun E R h => by obtain ⟨_, rfl⟩ := h; exact ⟨by rw [bv_length, padV_len], bv_one _⟩)
    skip
    clear hright hs Y0 HRD
    go_enter Tryd.func46, Tryd.ntmps46
    go_wp2_with (refine wpList_load_of rfl (.tmp 1) rfl rfl L1.out ?_)
    refine (KT.out).mono ?_
    rintro e w3 ⟨E, R, hA, rfl, Y3⟩
    obtain ⟨hl, h1⟩ := ans_mem hA HVV.out hZ.out
    have Y4 := VY0.out.join Y3
    simp only [List.cons_append, List.nil_append] at Y4
    have hsR : Hid ((Tryd.prog.info? 47).map (·.size) = some R.length) := veil (by rw [hl]; kernel_rfl)
    have T3 := veil (store_all (P := Tryd.prog) (ty := 47) (vs := R) (Y4.at mem0) (by rw [hl]; rfl) hsR.out h1)
    have Y5 := Y4.put 0 rfl R
    simp only [List.set_cons_zero] at Y5
    have VY5 := veil Y5
    have HA := veil hA
    clear KT VY0 hA Y3 Y4 Y5 hl h1 L1
    go_wp2_with (refine wpList_store_of rfl _ _ rfl rfl rfl T3.out ?_)
    refine bodyPost_ret (ret_row_tmp rfl rfl rfl (VY5.out.range mem0 (part_all _)) Tryd.underlying47 rfl hsR.out) rfl ?_
    exact ⟨E, R, HA.out, rfl, VY5.out.sub (List.Sublist.cons _ (List.Sublist.cons _ (List.Sublist.refl _)))⟩
  · have hright : Hid ((macB k zs.length) = (false && true && allS (nextS (s0 zs) 6))) := veil (by unfold macB; rw [all_mac]; simp [hk.1, hk.2])
    rw [hright.out]
    have KT := veil (toldMac ⟨k, A, n, c⟩ zs false (true) (nextS (s0 zs) 6) (macV zs) u0 (hs.keep Y0.below) hn (fun E R h => by obtain ⟨_, rfl⟩ := h; exact ⟨by rw [bv_length, padV_len], bv_one _⟩) HRD.out)
    have VY0 := veil Y0
    have HVV : Hid (∀ E R, (macV zs) E R → R.length = 6 ∧ ∀ v ∈ R, v.oneCell' = true) := veil (fun E R h => by obtain ⟨_, rfl⟩ := h; exact ⟨by rw [bv_length, padV_len], bv_one _⟩)
    have d1 : (k == 1) = false := by simp [hk.1]
    have d2 : (k == 2) = false := by simp [hk.2]
    clear hk
    clear hright hs Y0 HRD
    go_enter Tryd.func46, Tryd.ntmps46
    go_wp2_with (refine wpList_load_of rfl (.tmp 1) rfl rfl L1.out ?_)
    refine (KT.out).mono ?_
    rintro e w3 ⟨E, R, hA, rfl, Y3⟩
    obtain ⟨hl, h1⟩ := ans_mem hA HVV.out hZ.out
    have Y4 := VY0.out.join Y3
    simp only [List.cons_append, List.nil_append] at Y4
    have hsR : Hid ((Tryd.prog.info? 47).map (·.size) = some R.length) := veil (by rw [hl]; kernel_rfl)
    have T3 := veil (store_all (P := Tryd.prog) (ty := 47) (vs := R) (Y4.at mem0) (by rw [hl]; rfl) hsR.out h1)
    have Y5 := Y4.put 0 rfl R
    simp only [List.set_cons_zero] at Y5
    have VY5 := veil Y5
    have HA := veil hA
    clear KT VY0 hA Y3 Y4 Y5 hl h1 L1
    go_wp2_with (refine wpList_store_of rfl _ _ rfl rfl rfl T3.out ?_)
    refine bodyPost_ret (ret_row_tmp rfl rfl rfl (VY5.out.range mem0 (part_all _)) Tryd.underlying47 rfl hsR.out) rfl ?_
    exact ⟨E, R, HA.out, rfl, VY5.out.sub (List.Sublist.cons _ (List.Sublist.cons _ (List.Sublist.refl _)))⟩

set_option linter.unusedSimpArgs false in
set_option maxHeartbeats 16000000 in
theorem prefix_any (x : El) (zs : List Int) (w : World) (hs : Slc w x.v zs) (hz : Byt zs) (hn : zs.length ≤ 16000000) :
    Calls Tryd.prog 48 #[ov x] w fun e w' => ∃ E R, Ans (preB x.k zs) (preV zs) [.int .u8 0, .int .u8 0, .int .u8 0, .int .u8 0, .int .u8 0, .int .u8 0, .int .u8 0, .int .u8 0, .int .u8 0, .int .u8 0, .int .u8 0, .int .u8 0, .int .u8 0, .int .u8 0, .int .u8 0, .int .u8 0, .int .u8 0, .bool false, .bool false, .int .u32 0, .int .u32 0] E R ∧ e = .returned (.tuple #[.agg R.toArray, .bool (preB x.k zs)]) ∧ Lay w w' E := by
  obtain ⟨Z1, hZ1⟩ : ∃ Z : Array Value, Z = #[.int .u8 0, .int .u8 0, .int .u8 0, .int .u8 0, .int .u8 0, .int .u8 0, .int .u8 0, .int .u8 0, .int .u8 0, .int .u8 0, .int .u8 0, .int .u8 0, .int .u8 0, .int .u8 0, .int .u8 0, .int .u8 0, .int .u8 0, .bool false, .bool false, .int .u32 0, .int .u32 0] := ⟨_, rfl⟩
  have hz1 : Z1.toList = [.int .u8 0, .int .u8 0, .int .u8 0, .int .u8 0, .int .u8 0, .int .u8 0, .int .u8 0, .int .u8 0, .int .u8 0, .int .u8 0, .int .u8 0, .int .u8 0, .int .u8 0, .int .u8 0, .int .u8 0, .int .u8 0, .int .u8 0, .bool false, .bool false, .int .u32 0, .int .u32 0] := by rw [hZ1]
  have Y0 := ((Lay.begin w).new (tv x) 29 (g := w.heap.size) rfl).newA Z1 54 (g := w.heap.size + 1) (by simp)
  rw [hz1] at Y0
  obtain ⟨u0, hu0⟩ : ∃ u, (w.alloc (.cells (tv x).toArray 29)).alloc (.cells Z1 54) = u := ⟨_, rfl⟩
  rw [hu0] at Y0
  have hZ : Hid (([.int .u8 0, .int .u8 0, .int .u8 0, .int .u8 0, .int .u8 0, .int .u8 0, .int .u8 0, .int .u8 0, .int .u8 0, .int .u8 0, .int .u8 0, .int .u8 0, .int .u8 0, .int .u8 0, .int .u8 0, .int .u8 0, .int .u8 0, .bool false, .bool false, .int .u32 0, .int .u32 0] : List Value).length = 21 ∧ ∀ v ∈ ([.int .u8 0, .int .u8 0, .int .u8 0, .int .u8 0, .int .u8 0, .int .u8 0, .int .u8 0, .int .u8 0, .int .u8 0, .int .u8 0, .int .u8 0, .int .u8 0, .int .u8 0, .int .u8 0, .int .u8 0, .int .u8 0, .int .u8 0, .bool false, .bool false, .int .u32 0, .int .u32 0] : List Value), v.oneCell' = true) := veil ⟨rfl, by intro v hv; simp at hv; first | (subst hv; rfl) | (rcases hv with rfl | rfl <;> rfl) | (rcases hv with rfl | rfl | rfl <;> rfl)⟩
  obtain ⟨k, A, n, c⟩ := x
  have L1 := veil (Y0.load (P := Tryd.prog) (ty := 29) (vs := tv ⟨k, A, n, c⟩) mem1 (part_all _) Tryd.underlying29 rfl zeroO)
  have c0 := Y0.look mem1 (o := 0) (v := .int .u8 k) rfl
  have HRD : Hid (Reads1 86 u0 zs (decide (num (cutV zs (s0 zs) 1) ≤ 128)) (st6 (s0 zs)) (fun E u => ∃ R, u = .agg R.toArray ∧ (preV zs) E R)) := veil (fun w1 L i g b hL hi hb hne => (readPrefix_any hL hi hb hne hz (ok0 zs)).mono fun e w' ⟨he, hl⟩ => ⟨[], _, ⟨_, rfl, rfl, rfl⟩, he, by simpa using hl⟩)
  subst hZ1
  rcases (by omega : k = 3 ∨ ¬ k = 3) with rfl | hk
  · have hright : Hid ((preB 3 zs) = (true && decide (num (cutV zs (s0 zs) 1) ≤ 128) && allS (st6 (s0 zs)))) := veil (by unfold preB; rw [all_pre]; simp)
    rw [hright.out]
    have KT := veil (toldPrefix ⟨3, A, n, c⟩ zs true (decide (num (cutV zs (s0 zs) 1) ≤ 128)) (st6 (s0 zs)) (preV zs) u0 (hs.keep Y0.below) hn (fun E R h => by obtain ⟨_, rfl⟩ := h; exact ⟨pic_len (prefV_fit hz (ok0 zs)), pic_one _⟩) HRD.out)
    have VY0 := veil Y0
    have HVV : Hid (∀ E R, (preV zs) E R → R.length = 21 ∧ ∀ v ∈ R, v.oneCell' = true) := veil (fun E R h => by obtain ⟨_, rfl⟩ := h; exact ⟨pic_len (prefV_fit hz (ok0 zs)), pic_one _⟩)
    skip
    clear hright hs Y0 HRD
    go_enter Tryd.func48, Tryd.ntmps48
    go_wp2_with (refine wpList_load_of rfl (.tmp 1) rfl rfl L1.out ?_)
    refine (KT.out).mono ?_
    rintro e w3 ⟨E, R, hA, rfl, Y3⟩
    obtain ⟨hl, h1⟩ := ans_mem hA HVV.out hZ.out
    have Y4 := VY0.out.join Y3
    simp only [List.cons_append, List.nil_append] at Y4
    have hsR : Hid ((Tryd.prog.info? 54).map (·.size) = some R.length) := veil (by rw [hl]; kernel_rfl)
    have T3 := veil (store_all (P := Tryd.prog) (ty := 54) (vs := R) (Y4.at mem0) (by rw [hl]; rfl) hsR.out h1)
    have Y5 := Y4.put 0 rfl R
    simp only [List.set_cons_zero] at Y5
    have VY5 := veil Y5
    have HA := veil hA
    clear KT VY0 hA Y3 Y4 Y5 hl h1 L1
    go_wp2_with (refine wpList_store_of rfl _ _ rfl rfl rfl T3.out ?_)
    refine bodyPost_ret (ret_row_tmp rfl rfl rfl (VY5.out.range mem0 (part_all _)) Tryd.underlying54 rfl hsR.out) rfl ?_
    exact ⟨E, R, HA.out, rfl, VY5.out.sub (List.Sublist.cons _ (List.Sublist.cons _ (List.Sublist.refl _)))⟩
  · have hright : Hid ((preB k zs) = (false && decide (num (cutV zs (s0 zs) 1) ≤ 128) && allS (st6 (s0 zs)))) := veil (by unfold preB; rw [all_pre]; simp [hk])
    rw [hright.out]
    have KT := veil (toldPrefix ⟨k, A, n, c⟩ zs false (decide (num (cutV zs (s0 zs) 1) ≤ 128)) (st6 (s0 zs)) (preV zs) u0 (hs.keep Y0.below) hn (fun E R h => by obtain ⟨_, rfl⟩ := h; exact ⟨pic_len (prefV_fit hz (ok0 zs)), pic_one _⟩) HRD.out)
    have VY0 := veil Y0
    have HVV : Hid (∀ E R, (preV zs) E R → R.length = 21 ∧ ∀ v ∈ R, v.oneCell' = true) := veil (fun E R h => by obtain ⟨_, rfl⟩ := h; exact ⟨pic_len (prefV_fit hz (ok0 zs)), pic_one _⟩)
    have d1 : (k == 3) = false := by simp [hk]
    clear hk
    clear hright hs Y0 HRD
    go_enter Tryd.func48, Tryd.ntmps48
    go_wp2_with (refine wpList_load_of rfl (.tmp 1) rfl rfl L1.out ?_)
    refine (KT.out).mono ?_
    rintro e w3 ⟨E, R, hA, rfl, Y3⟩
    obtain ⟨hl, h1⟩ := ans_mem hA HVV.out hZ.out
    have Y4 := VY0.out.join Y3
    simp only [List.cons_append, List.nil_append] at Y4
    have hsR : Hid ((Tryd.prog.info? 54).map (·.size) = some R.length) := veil (by rw [hl]; kernel_rfl)
    have T3 := veil (store_all (P := Tryd.prog) (ty := 54) (vs := R) (Y4.at mem0) (by rw [hl]; rfl) hsR.out h1)
    have Y5 := Y4.put 0 rfl R
    simp only [List.set_cons_zero] at Y5
    have VY5 := veil Y5
    have HA := veil hA
    clear KT VY0 hA Y3 Y4 Y5 hl h1 L1
    go_wp2_with (refine wpList_store_of rfl _ _ rfl rfl rfl T3.out ?_)
    refine bodyPost_ret (ret_row_tmp rfl rfl rfl (VY5.out.range mem0 (part_all _)) Tryd.underlying54 rfl hsR.out) rfl ?_
    exact ⟨E, R, HA.out, rfl, VY5.out.sub (List.Sublist.cons _ (List.Sublist.cons _ (List.Sublist.refl _)))⟩

set_option linter.unusedSimpArgs false in
set_option maxHeartbeats 16000000 in
theorem mtuOf_any (x : El) (zs : List Int) (w : World) (hs : Slc w x.v zs) (hz : Byt zs) (hn : zs.length ≤ 16000000) :
    Calls Tryd.prog 49 #[ov x] w fun e w' => e = .returned (.tuple #[.int .u32 (ansN (mtuB x.k zs.length) (num6 zs (s0 zs))), .bool (mtuB x.k zs.length)]) ∧ Below w.heap.size w w' := by
  have Y0 := (Lay.begin w).new (tv x) 29 (g := w.heap.size) rfl
  obtain ⟨u0, hu0⟩ : ∃ u, w.alloc (.cells (tv x).toArray 29) = u := ⟨_, rfl⟩
  rw [hu0] at Y0
  obtain ⟨k, A, n, c⟩ := x
  have L1 := veil (Y0.load (P := Tryd.prog) (ty := 29) (vs := tv ⟨k, A, n, c⟩) mem0 (part_all _) Tryd.underlying29 rfl zeroO)
  have c0 := Y0.look mem0 (o := 0) (v := .int .u8 k) rfl
  rcases (by omega : k = 5 ∨ ¬ k = 5) with rfl | hk
  · have hright : Hid (mtuB 5 zs.length = (true && allS (numS6 (s0 zs)))) := veil (by unfold mtuB; rw [all_num]; simp)
    rw [hright.out]
    have KT := veil (told32 ⟨5, A, n, c⟩ zs true (numS6 (s0 zs)) (num6 zs (s0 zs)) u0 (hs.keep Y0.below) hn (fun w1 L i g b hL hi hb hne => readNumber_any hL hi hb hne hz (ok0 zs)))
    have VQ := veil Y0.below
    skip
    clear hright hs Y0
    go_enter Tryd.func49, Tryd.ntmps49
    go_wp2_with (refine wpList_load_of rfl (.tmp 1) rfl rfl L1.out ?_)
    refine (KT.out).mono ?_
    rintro e w3 ⟨rfl, q3⟩
    have VQ3 := veil (VQ.out.trans (q3.mono VQ.out.size))
    clear KT L1 q3
    go_wp2_with fail
    refine bodyPost_ret (results_tmp2 rfl _ _ _) rfl ?_
    exact ⟨rfl, VQ3.out⟩
  · have hright : Hid (mtuB k zs.length = (false && allS (numS6 (s0 zs)))) := veil (by unfold mtuB; rw [all_num]; simp [hk])
    rw [hright.out]
    have KT := veil (told32 ⟨k, A, n, c⟩ zs false (numS6 (s0 zs)) (num6 zs (s0 zs)) u0 (hs.keep Y0.below) hn (fun w1 L i g b hL hi hb hne => readNumber_any hL hi hb hne hz (ok0 zs)))
    have VQ := veil Y0.below
    have d1 : (k == 5) = false := by simp [hk]
    clear hk
    clear hright hs Y0
    go_enter Tryd.func49, Tryd.ntmps49
    go_wp2_with (refine wpList_load_of rfl (.tmp 1) rfl rfl L1.out ?_)
    refine (KT.out).mono ?_
    rintro e w3 ⟨rfl, q3⟩
    have VQ3 := veil (VQ.out.trans (q3.mono VQ.out.size))
    clear KT L1 q3
    go_wp2_with fail
    refine bodyPost_ret (results_tmp2 rfl _ _ _) rfl ?_
    exact ⟨rfl, VQ3.out⟩

theorem ser_shape {ok : Bool} {zs : List Int} {E : List Blk} {R : List Value} (h : Ans ok (serV zs) [.int .u32 0, .slice none 0 0] E R) : ∃ v A m, R = [.int .u32 v, .slice A m m] := by
  cases ok
  · obtain ⟨_, rfl⟩ := h
    exact ⟨0, none, 0, rfl⟩
  · obtain ⟨gl, _, rfl⟩ := h
    exact ⟨_, _, _, rfl⟩
theorem serN_le (zs : List Int) : leftS (numS6 (s0 zs)) ≤ zs.length := by
  obtain ⟨h1, h2⟩ := adv_some [2, 4] 0 zs.length
  have e0 : numS6 (s0 zs) = adv (some (0, zs.length)) [2, 4] := rfl
  have hs : [2, 4].sum = 6 := rfl
  rw [hs] at h1 h2
  by_cases h : 6 ≤ zs.length
  · obtain ⟨o', e⟩ := h1 h
    rw [e0, e]
    simp [leftS]
  · rw [e0, h2 (by omega)]
    simp [leftS]
set_option linter.unusedSimpArgs false in
set_option maxHeartbeats 16000000 in
theorem serversOf_any (x : El) (zs : List Int) (w : World) (hs : Slc w x.v zs) (hz : Byt zs) (hn : zs.length ≤ 16000000) :
    Calls Tryd.prog 51 #[ov x] w fun e w' => ∃ E v A m, Ans (serOk x.k zs.length) (serV zs) [.int .u32 0, .slice none 0 0] E [.int .u32 v, .slice A m m] ∧ e = .returned (.tuple #[.int .u32 v, .slice A m m, .bool (serOk x.k zs.length)]) ∧ Lay w w' E := by
  have Y0 := (Lay.begin w).new (tv x) 29 (g := w.heap.size) rfl
  obtain ⟨u0, hu0⟩ : ∃ u, w.alloc (.cells (tv x).toArray 29) = u := ⟨_, rfl⟩
  rw [hu0] at Y0
  obtain ⟨k, A, n, c⟩ := x
  have L1 := veil (Y0.load (P := Tryd.prog) (ty := 29) (vs := tv ⟨k, A, n, c⟩) mem0 (part_all _) Tryd.underlying29 rfl zeroO)
  have c0 := Y0.look mem0 (o := 0) (v := .int .u8 k) rfl
  have HRD : Hid (Reads1 90 u0 zs (decide (0 < serN zs)) (nextA (numS6 (s0 zs)) (serN zs)) (fun E u => ∃ R, u = .agg R.toArray ∧ serV zs E R)) := veil (fun w1 L i g b hL hi hb hne => (readServers_any hL hi hb hne hz (ok0 zs) (Nat.le_trans (serN_le zs) hn)).mono fun e w' ⟨gl, _, he, hl⟩ => ⟨[(gl, 49, bv (rdA zs (numS6 (s0 zs)) (serN zs)).flatten)], _, ⟨_, rfl, gl, rfl, rfl⟩, he, hl.perm (List.perm_append_singleton _ _).symm⟩)
  rcases (by omega : k = 25 ∨ ¬ k = 25) with rfl | hk
  · have hright : Hid (serOk 25 zs.length = (true && decide (0 < serN zs) && allS (nextA (numS6 (s0 zs)) (serN zs)))) := veil (by unfold serOk; rw [Bool.and_assoc, all_ser]; simp)
    have KT := (toldServers ⟨25, A, n, c⟩ zs true (decide (0 < serN zs)) (nextA (numS6 (s0 zs)) (serN zs)) (serV zs) u0 (hs.keep Y0.below) hn (fun E R h => by obtain ⟨_, _, rfl⟩ := h; exact ⟨rfl, by intro v hv; simp at hv; rcases hv with rfl | rfl <;> rfl⟩) HRD.out)
    rw [← hright.out] at KT
    replace KT := veil KT
    have VY0 := veil Y0
    skip
    clear hright hs Y0 HRD
    generalize serOk 25 zs.length = ok at *
    go_enter Tryd.func51, Tryd.ntmps51
    go_wp2_with (refine wpList_load_of rfl (.tmp 1) rfl rfl L1.out ?_)
    refine (KT.out).mono ?_
    rintro e w3 ⟨E, R, hA, rfl, Y3⟩
    obtain ⟨v, A2, m, rfl⟩ := ser_shape hA
    have Y4 := VY0.out.join Y3
    simp only [List.cons_append, List.nil_append] at Y4
    have Y5 := Y4.new [.int .u32 v, .slice A2 m m] 120 (g := w3.heap.size) rfl
    have e0 := Y5.look mem0 (o := 0) (v := .int .u32 v) rfl
    have e1 := Y5.look mem0 (o := 1) (v := .slice A2 m m) rfl
    have VY5 := veil Y5
    have HA := veil hA
    clear KT VY0 hA Y3 Y4 Y5 L1
    go_wp2_with fail
    go_quiet (fail)
    go_wp2_with fail
    refine bodyPost_ret (results_tmp3 rfl _ _ _) rfl ?_
    exact ⟨E, v, A2, m, HA.out, rfl, (VY5.out.drewN _).sub (List.Sublist.cons _ (List.Sublist.cons _ (List.Sublist.refl _)))⟩
  · have hright : Hid (serOk k zs.length = (false && decide (0 < serN zs) && allS (nextA (numS6 (s0 zs)) (serN zs)))) := veil (by unfold serOk; rw [Bool.and_assoc, all_ser]; simp [hk])
    have KT := (toldServers ⟨k, A, n, c⟩ zs false (decide (0 < serN zs)) (nextA (numS6 (s0 zs)) (serN zs)) (serV zs) u0 (hs.keep Y0.below) hn (fun E R h => by obtain ⟨_, _, rfl⟩ := h; exact ⟨rfl, by intro v hv; simp at hv; rcases hv with rfl | rfl <;> rfl⟩) HRD.out)
    rw [← hright.out] at KT
    replace KT := veil KT
    have VY0 := veil Y0
    have d1 : (k == 25) = false := by simp [hk]
    clear hk
    clear hright hs Y0 HRD
    generalize serOk k zs.length = ok at *
    go_enter Tryd.func51, Tryd.ntmps51
    go_wp2_with (refine wpList_load_of rfl (.tmp 1) rfl rfl L1.out ?_)
    refine (KT.out).mono ?_
    rintro e w3 ⟨E, R, hA, rfl, Y3⟩
    obtain ⟨v, A2, m, rfl⟩ := ser_shape hA
    have Y4 := VY0.out.join Y3
    simp only [List.cons_append, List.nil_append] at Y4
    have Y5 := Y4.new [.int .u32 v, .slice A2 m m] 120 (g := w3.heap.size) rfl
    have e0 := Y5.look mem0 (o := 0) (v := .int .u32 v) rfl
    have e1 := Y5.look mem0 (o := 1) (v := .slice A2 m m) rfl
    have VY5 := veil Y5
    have HA := veil hA
    clear KT VY0 hA Y3 Y4 Y5 L1
    go_wp2_with fail
    go_quiet (fail)
    go_wp2_with fail
    refine bodyPost_ret (results_tmp3 rfl _ _ _) rfl ?_
    exact ⟨E, v, A2, m, HA.out, rfl, (VY5.out.drewN _).sub (List.Sublist.cons _ (List.Sublist.cons _ (List.Sublist.refl _)))⟩

end Go.Proofs.YtdebifkefpclaaaDoor.Oz
