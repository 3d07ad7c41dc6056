/-
  What the code tells of an option: an address of the link, a prefix, the greatest packet, servers: whatever option it is.
  Conditions: data that read as bytes, at most 16000000.
-/
import Derived.Test.YtdebifkefpclaaaDoorOpoK
namespace Go.Proofs.YtdebifkefpclaaaDoor.Oz
set_option maxRecDepth 100000
open Go.RowKit Ops

abbrev fnv (f : FuncId) : Value := .func (.func f) #[] #[]
/-- has a cutter that began so been gone through, wholly? -/
def allS (s : St) : Bool := s.isSome && decide (leftS s = 0)
def adv (s : St) : List Nat → St
  | [] => s
  | k :: ks => adv (nextS s k) ks
theorem adv_none : ∀ ks, adv none ks = none
  | [] => rfl
  | _ :: ks => adv_none ks
theorem adv_some : ∀ (ks : List Nat) (o r : Nat), (ks.sum ≤ r → ∃ o', adv (some (o, r)) ks = some (o', r - ks.sum)) ∧ (r < ks.sum → adv (some (o, r)) ks = none)
  | [], o, r => ⟨fun _ => ⟨o, by simp [adv]⟩, fun h => by simp at h⟩
  | k :: ks, o, r => by
    by_cases hk : k ≤ r
    · have e : nextS (some (o, r)) k = some (if r = k then o else o + k, r - k) := by simp [nextS, hk]
      obtain ⟨h1, h2⟩ := adv_some ks (if r = k then o else o + k) (r - k)
      simp only [adv, e, List.sum_cons]
      refine ⟨fun h => ?_, fun h => h2 (by omega)⟩
      obtain ⟨o', ho⟩ := h1 (by omega)
      exact ⟨o', by rw [ho]; congr 2; omega⟩
    · have e : nextS (some (o, r)) k = none := by simp [nextS, hk]
      simp only [adv, e, List.sum_cons]
      exact ⟨fun h => by omega, fun _ => adv_none ks⟩
theorem allS_adv (ks : List Nat) (o r : Nat) : allS (adv (some (o, r)) ks) = decide (r = ks.sum) := by
  obtain ⟨h1, h2⟩ := adv_some ks o r
  by_cases h : ks.sum ≤ r
  · obtain ⟨o', e⟩ := h1 h
    rw [e]
    change decide (r - ks.sum = 0) = decide (r = ks.sum)
    exact decide_eq_decide.2 (by omega)
  · rw [h2 (by omega)]
    have : ¬ r = ks.sum := by omega
    simp [allS, this]

theorem _root_.Go.Proofs.YtdebifkefpclaaaDoor.Lay.perm {w0 w : World} {L L' : List Blk} (h : Lay w0 w L) (p : L.Perm L') : Lay w0 w L' := ⟨fun x hx => h.row x (p.symm.subset hx), fun x hx => h.own x (p.symm.subset hx), (p.map _).nodup_iff.1 h.nd, h.below⟩
/-- what is told: what was read, or nought -/
def Ans (ok : Bool) (V : List Blk → List Value → Prop) (Z : List Value) (E : List Blk) (R : List Value) : Prop := if ok = true then V E R else E = [] ∧ R = Z
theorem ans_no (V : List Blk → List Value → Prop) (Z : List Value) : Ans false V Z [] Z := ⟨rfl, rfl⟩
theorem ans_yes {V : List Blk → List Value → Prop} {Z R : List Value} {E : List Blk} (h : V E R) : Ans true V Z E R := h
/-- what a reader answers, handed a cutter that begins -/
def Reads1 (F : FuncId) (w : World) (zs : List Int) (ro : Bool) (s' : St) (V : List Blk → Value → Prop) : Prop := ∀ (w1 : World) (L : List Blk) (i g b : Nat), Lay w w1 L → L[i]? = some (g, 130, cS b (some (0, zs.length))) → (b, 5, bv zs) ∈ L → b ≠ g →
  Calls Tryd.prog F #[.pointer (some ⟨g, 0, none⟩)] w1 fun e w' => ∃ E R, V E R ∧ e = .returned (.tuple #[R, .bool ro]) ∧ Lay w w' (L.set i (g, 130, cS b s') ++ E)

set_option linter.unusedSimpArgs false in
set_option maxHeartbeats 16000000 in
theorem toldMac (x : El) (zs : List Int) (right ro : Bool) (s' : St) (V : List Blk → List Value → Prop) (w : World) (hs : Slc w x.v zs) (hn : zs.length ≤ 16000000) (hV : ∀ E R, V E R → R.length = 6 ∧ ∀ v ∈ R, v.oneCell' = true)
    (hread : Reads1 84 w zs ro s' (fun E u => ∃ R, u = .agg R.toArray ∧ V E R)) :
    Calls Tryd.prog 83 #[ov x, .bool right, fnv 84] w fun e w' => ∃ E R, Ans (right && ro && allS s') V [.int .u8 0, .int .u8 0, .int .u8 0, .int .u8 0, .int .u8 0, .int .u8 0] E R ∧ e = .returned (.tuple #[.agg R.toArray, .bool (right && ro && allS s')]) ∧ Lay w w' E := by
  obtain ⟨Z1, hZ1⟩ : ∃ Z : Array Value, Z = #[.int .u8 0, .int .u8 0, .int .u8 0, .int .u8 0, .int .u8 0, .int .u8 0] := ⟨_, rfl⟩
  have hz1 : Z1.toList = [.int .u8 0, .int .u8 0, .int .u8 0, .int .u8 0, .int .u8 0, .int .u8 0] := by rw [hZ1]
  have Y0 := (((Lay.begin w).new (tv x) 29 (g := w.heap.size) rfl).newA Z1 47 (g := w.heap.size + 1) (by simp)).newA Z1 47 (g := w.heap.size + 2) (by simp)
  rw [hz1] at Y0
  obtain ⟨u0, hu0⟩ : ∃ u, ((w.alloc (.cells (tv x).toArray 29)).alloc (.cells Z1 47)).alloc (.cells Z1 47) = u := ⟨_, rfl⟩
  rw [hu0] at Y0
  have hsZ : Hid ((Tryd.prog.info? 47).map (·.size) = some ([.int .u8 0, .int .u8 0, .int .u8 0, .int .u8 0, .int .u8 0, .int .u8 0] : List Value).length) := veil (by kernel_rfl)
  have h1Z : Hid (∀ v ∈ ([.int .u8 0, .int .u8 0, .int .u8 0, .int .u8 0, .int .u8 0, .int .u8 0] : List Value), v.oneCell' = true) := veil (by intro v hv; simp at hv; first | (subst hv; rfl) | (rcases hv with rfl | rfl <;> rfl) | (rcases hv with rfl | rfl | rfl <;> rfl) | (rcases hv with rfl | rfl | rfl | rfl <;> rfl))
  obtain ⟨k, A, n, c⟩ := x
  have hnl : zs.length = n := (slc_of hs).1
  cases right
  · have L8 := veil (Y0.load (P := Tryd.prog) (ty := 47) (vs := [.int .u8 0, .int .u8 0, .int .u8 0, .int .u8 0, .int .u8 0, .int .u8 0]) mem0 (part_all _) Tryd.underlying47 rfl hsZ.out)
    have T8 := veil (store_all (P := Tryd.prog) (ty := 47) (vs := [.int .u8 0, .int .u8 0, .int .u8 0, .int .u8 0, .int .u8 0, .int .u8 0]) (Y0.at mem1) rfl hsZ.out h1Z.out)
    have Y8 := Y0.put 1 rfl [.int .u8 0, .int .u8 0, .int .u8 0, .int .u8 0, .int .u8 0, .int .u8 0]
    simp only [List.set_cons_zero, List.set_cons_succ] at Y8
    have VY8 := veil Y8
    clear hread hV hs Y0 Y8 hz1
    subst hZ1
    go_enter Tryd.func83, Tryd.ntmps83
    go_wp2_with (first
      | (refine wpList_load_of rfl (.tmp 8) rfl rfl L8.out ?_)
      | (refine wpList_store_of rfl _ _ rfl rfl rfl T8.out ?_))
    refine bodyPost_ret (ret_row_tmp rfl rfl rfl (VY8.out.range mem1 (part_all _)) Tryd.underlying47 rfl hsZ.out) rfl ?_
    exact ⟨[], [.int .u8 0, .int .u8 0, .int .u8 0, .int .u8 0, .int .u8 0, .int .u8 0], ⟨rfl, rfl⟩, rfl, VY8.out.sub (List.nil_sublist _)⟩
  · have c1 := Y0.look mem2 (o := 1) (v := .slice A n c) rfl
    have hs0 := hs.keep Y0.below
    have KO := veil (Y0.cut (zs := zs) A n c hnl (by omega) (slc_of hs0).2.1)
    have HR := veil hread
    have HV := veil hV
    have HN := veil hnl
    clear hread hV hs Y0 hz1 hs0 hnl hn
    subst hZ1
    go_enter Tryd.func83, Tryd.ntmps83
    go_wp2_with fail
    clear hu0 c1
    refine (KO.out).mono ?_
    rintro e w1 ⟨b, hb, rfl, Y1, _⟩
    have KR := veil (HR.out w1 _ 0 (b + 1) b Y1 (by rw [HN.out]; rfl) mem1 (by omega))
    clear KO Y1 hb HR
    go_wp2_with fail
    refine (KR.out).mono ?_
    rintro e w3 ⟨E, R0, ⟨R, rfl, VR⟩, rfl, Y3⟩
    simp only [List.set_cons_zero, List.cons_append, List.nil_append] at Y3
    obtain ⟨hlR, h1R⟩ := HV.out E R VR
    obtain ⟨Z3, hZ3⟩ : ∃ Z : Array Value, Z = #[.int .u8 0, .int .u8 0, .int .u8 0, .int .u8 0, .int .u8 0, .int .u8 0] := ⟨_, rfl⟩
    have hz3 : R.length = Z3.toList.length := by rw [hZ3, hlR]; rfl
    have hsR : Hid ((Tryd.prog.info? 47).map (·.size) = some R.length) := veil (by rw [hlR]; kernel_rfl)
    have Y4 := Y3.newA Z3 47 (g := w3.heap.size) rfl
    have T3 := veil (store_all (P := Tryd.prog) (ty := 47) (vs := R) (Y4.at mem0) hz3 hsR.out h1R)
    have Y4 := Y4.put 0 rfl R
    simp only [List.set_cons_zero] at Y4
    obtain ⟨w4, hw4⟩ : ∃ u, (w3.alloc (.cells Z3 47)).setRow w3.heap.size R.toArray = u := ⟨_, rfl⟩
    rw [hw4] at T3 Y4
    have VY4 := veil Y4
    have HVR := veil VR
    have h1R' := veil h1R
    have hlR' := veil (show R.length = ([.int .u8 0, .int .u8 0, .int .u8 0, .int .u8 0, .int .u8 0, .int .u8 0] : List Value).length from hlR)
    have KB := veil (Lay.badS (g := b + 1) (b := b) (s := s') Y4 mem1)
    have KL := veil (Lay.leftS (g := b + 1) (b := b) (s := s') Y4 mem1)
    clear KR Y3 Y4 hw4 HV VR h1R hlR hz3
    subst hZ3
    obtain ⟨bad, hbad⟩ : ∃ z, s'.isNone = z := ⟨_, rfl⟩
    obtain ⟨lf, hlf⟩ : ∃ z, leftS s' = z := ⟨_, rfl⟩
    have HA : Hid (allS s' = (!bad && decide (lf = 0))) := veil (by rw [← hbad, ← hlf]; unfold allS; cases s' <;> rfl)
    rw [hbad] at KB
    rw [hlf] at KL
    clear hbad hlf
    have hcase : (ro = false) ∨ (ro = true ∧ bad = true) ∨ (ro = true ∧ bad = false ∧ (0 : Int) < (lf : Int)) ∨ (ro = true ∧ bad = false ∧ lf = 0) := by
      cases ro <;> cases bad <;> simp
      omega
    rcases hcase with rfl | ⟨rfl, rfl⟩ | ⟨rfl, rfl, hpos⟩ | ⟨rfl, rfl, rfl⟩
    · have L9 := veil (VY4.out.load (P := Tryd.prog) (ty := 47) (vs := [.int .u8 0, .int .u8 0, .int .u8 0, .int .u8 0, .int .u8 0, .int .u8 0]) mem3 (part_all _) Tryd.underlying47 rfl hsZ.out)
      have T9 := veil (store_all (P := Tryd.prog) (ty := 47) (vs := [.int .u8 0, .int .u8 0, .int .u8 0, .int .u8 0, .int .u8 0, .int .u8 0]) (VY4.out.at mem4) rfl hsZ.out h1Z.out)
      have Y9 := VY4.out.put 4 rfl [.int .u8 0, .int .u8 0, .int .u8 0, .int .u8 0, .int .u8 0, .int .u8 0]
      simp only [List.set_cons_zero, List.set_cons_succ] at Y9
      have VY9 := veil Y9
      clear Y9 KB KL
      go_wp2_with (first
        | (refine wpList_store_of rfl _ _ rfl rfl rfl T3.out ?_)
        | (refine wpList_load_of rfl (.tmp 8) rfl rfl L9.out ?_)
        | (refine wpList_store_of rfl _ _ rfl rfl rfl T9.out ?_))
      refine bodyPost_ret (ret_row_tmp rfl rfl rfl (VY9.out.range mem4 (part_all _)) Tryd.underlying47 rfl hsZ.out) rfl ?_
      refine ⟨[], [.int .u8 0, .int .u8 0, .int .u8 0, .int .u8 0, .int .u8 0, .int .u8 0], by first | exact ans_no _ _ | (rw [show (true && true && allS s') = false by rw [HA.out]; simp]; exact ans_no _ _), by first | rfl | (rw [HA.out]; simp), VY9.out.sub (List.nil_sublist _)⟩
    · go_wp2_with (refine wpList_store_of rfl _ _ rfl rfl rfl T3.out ?_)
      refine (KB.out).mono ?_
      rintro e w5 ⟨rfl, rfl⟩
      have L9 := veil (VY4.out.load (P := Tryd.prog) (ty := 47) (vs := [.int .u8 0, .int .u8 0, .int .u8 0, .int .u8 0, .int .u8 0, .int .u8 0]) mem3 (part_all _) Tryd.underlying47 rfl hsZ.out)
      have T9 := veil (store_all (P := Tryd.prog) (ty := 47) (vs := [.int .u8 0, .int .u8 0, .int .u8 0, .int .u8 0, .int .u8 0, .int .u8 0]) (VY4.out.at mem4) rfl hsZ.out h1Z.out)
      have Y9 := VY4.out.put 4 rfl [.int .u8 0, .int .u8 0, .int .u8 0, .int .u8 0, .int .u8 0, .int .u8 0]
      simp only [List.set_cons_zero, List.set_cons_succ] at Y9
      have VY9 := veil Y9
      clear Y9 KB KL
      go_wp2_with (first
        | (refine wpList_load_of rfl (.tmp 8) rfl rfl L9.out ?_)
        | (refine wpList_store_of rfl _ _ rfl rfl rfl T9.out ?_))
      refine bodyPost_ret (ret_row_tmp rfl rfl rfl (VY9.out.range mem4 (part_all _)) Tryd.underlying47 rfl hsZ.out) rfl ?_
      refine ⟨[], [.int .u8 0, .int .u8 0, .int .u8 0, .int .u8 0, .int .u8 0, .int .u8 0], by first | exact ans_no _ _ | (rw [show (true && true && allS s') = false by rw [HA.out]; simp]; exact ans_no _ _), by first | rfl | (rw [HA.out]; simp), VY9.out.sub (List.nil_sublist _)⟩
    · go_wp2_with (refine wpList_store_of rfl _ _ rfl rfl rfl T3.out ?_)
      refine (KB.out).mono ?_
      rintro e w5 ⟨rfl, rfl⟩
      go_wp2_with fail
      refine (KL.out).mono ?_
      rintro e w5 ⟨rfl, rfl⟩
      have L9 := veil (VY4.out.load (P := Tryd.prog) (ty := 47) (vs := [.int .u8 0, .int .u8 0, .int .u8 0, .int .u8 0, .int .u8 0, .int .u8 0]) mem3 (part_all _) Tryd.underlying47 rfl hsZ.out)
      have T9 := veil (store_all (P := Tryd.prog) (ty := 47) (vs := [.int .u8 0, .int .u8 0, .int .u8 0, .int .u8 0, .int .u8 0, .int .u8 0]) (VY4.out.at mem4) rfl hsZ.out h1Z.out)
      have Y9 := VY4.out.put 4 rfl [.int .u8 0, .int .u8 0, .int .u8 0, .int .u8 0, .int .u8 0, .int .u8 0]
      simp only [List.set_cons_zero, List.set_cons_succ] at Y9
      have VY9 := veil Y9
      have hne : ¬ lf = 0 := by omega
      clear Y9 KB KL
      go_wp2_with (first
        | (refine wpList_load_of rfl (.tmp 8) rfl rfl L9.out ?_)
        | (refine wpList_store_of rfl _ _ rfl rfl rfl T9.out ?_))
      refine bodyPost_ret (ret_row_tmp rfl rfl rfl (VY9.out.range mem4 (part_all _)) Tryd.underlying47 rfl hsZ.out) rfl ?_
      refine ⟨[], [.int .u8 0, .int .u8 0, .int .u8 0, .int .u8 0, .int .u8 0, .int .u8 0], by first | exact ans_no _ _ | (rw [show (true && true && allS s') = false by rw [HA.out]; simp [hne]]; exact ans_no _ _), by first | rfl | (rw [HA.out]; simp [hne]), VY9.out.sub (List.nil_sublist _)⟩
    · go_wp2_with (refine wpList_store_of rfl _ _ rfl rfl rfl T3.out ?_)
      refine (KB.out).mono ?_
      rintro e w5 ⟨rfl, rfl⟩
      go_wp2_with fail
      refine (KL.out).mono ?_
      rintro e w5 ⟨rfl, rfl⟩
      have L9 := veil (VY4.out.load (P := Tryd.prog) (ty := 47) (vs := R) mem0 (part_all _) Tryd.underlying47 rfl hsR.out)
      have T9 := veil (store_all (P := Tryd.prog) (ty := 47) (vs := R) (VY4.out.at mem4) hlR'.out hsR.out h1R'.out)
      have Y9 := VY4.out.put 4 rfl R
      simp only [List.set_cons_zero, List.set_cons_succ] at Y9
      have VY9 := veil Y9
      clear Y9 KB KL
      go_wp2_with (first
        | (refine wpList_load_of rfl (.tmp 10) rfl rfl L9.out ?_)
        | (refine wpList_store_of rfl _ _ rfl rfl rfl T9.out ?_))
      refine bodyPost_ret (ret_row_tmp rfl rfl rfl (VY9.out.range mem4 (part_all _)) Tryd.underlying47 rfl hsR.out) rfl ?_
      refine ⟨E, R, by rw [show (true && true && allS s') = true by rw [HA.out]; simp]; exact ans_yes HVR.out, by rw [HA.out]; simp, VY9.out.sub (List.Sublist.cons _ (List.Sublist.cons _ (List.Sublist.cons _ (List.Sublist.cons _ (List.Sublist.cons _ (List.Sublist.cons _ (List.Sublist.refl _)))))))⟩

set_option linter.unusedSimpArgs false in
set_option maxHeartbeats 16000000 in
theorem toldPrefix (x : El) (zs : List Int) (right ro : Bool) (s' : St) (V : List Blk → List Value → Prop) (w : World) (hs : Slc w x.v zs) (hn : zs.length ≤ 16000000) (hV : ∀ E R, V E R → R.length = 21 ∧ ∀ v ∈ R, v.oneCell' = true)
    (hread : Reads1 86 w zs ro s' (fun E u => ∃ R, u = .agg R.toArray ∧ V E R)) :
    Calls Tryd.prog 85 #[ov x, .bool right, fnv 86] w fun e w' => ∃ E R, Ans (right && ro && allS s') V [.int .u8 0, .int .u8 0, .int .u8 0, .int .u8 0, .int .u8 0, .int .u8 0, .int .u8 0, .int .u8 0, .int .u8 0, .int .u8 0, .int .u8 0, .int .u8 0, .int .u8 0, .int .u8 0, .int .u8 0, .int .u8 0, .int .u8 0, .bool false, .bool false, .int .u32 0, .int .u32 0] E R ∧ e = .returned (.tuple #[.agg R.toArray, .bool (right && ro && allS s')]) ∧ Lay w w' E := by
  obtain ⟨Z1, hZ1⟩ : ∃ Z : Array Value, Z = #[.int .u8 0, .int .u8 0, .int .u8 0, .int .u8 0, .int .u8 0, .int .u8 0, .int .u8 0, .int .u8 0, .int .u8 0, .int .u8 0, .int .u8 0, .int .u8 0, .int .u8 0, .int .u8 0, .int .u8 0, .int .u8 0, .int .u8 0, .bool false, .bool false, .int .u32 0, .int .u32 0] := ⟨_, rfl⟩
  have hz1 : Z1.toList = [.int .u8 0, .int .u8 0, .int .u8 0, .int .u8 0, .int .u8 0, .int .u8 0, .int .u8 0, .int .u8 0, .int .u8 0, .int .u8 0, .int .u8 0, .int .u8 0, .int .u8 0, .int .u8 0, .int .u8 0, .int .u8 0, .int .u8 0, .bool false, .bool false, .int .u32 0, .int .u32 0] := by rw [hZ1]
  have Y0 := (((Lay.begin w).new (tv x) 29 (g := w.heap.size) rfl).newA Z1 54 (g := w.heap.size + 1) (by simp)).newA Z1 54 (g := w.heap.size + 2) (by simp)
  rw [hz1] at Y0
  obtain ⟨u0, hu0⟩ : ∃ u, ((w.alloc (.cells (tv x).toArray 29)).alloc (.cells Z1 54)).alloc (.cells Z1 54) = u := ⟨_, rfl⟩
  rw [hu0] at Y0
  have hsZ : Hid ((Tryd.prog.info? 54).map (·.size) = some ([.int .u8 0, .int .u8 0, .int .u8 0, .int .u8 0, .int .u8 0, .int .u8 0, .int .u8 0, .int .u8 0, .int .u8 0, .int .u8 0, .int .u8 0, .int .u8 0, .int .u8 0, .int .u8 0, .int .u8 0, .int .u8 0, .int .u8 0, .bool false, .bool false, .int .u32 0, .int .u32 0] : List Value).length) := veil (by kernel_rfl)
  have h1Z : Hid (∀ v ∈ ([.int .u8 0, .int .u8 0, .int .u8 0, .int .u8 0, .int .u8 0, .int .u8 0, .int .u8 0, .int .u8 0, .int .u8 0, .int .u8 0, .int .u8 0, .int .u8 0, .int .u8 0, .int .u8 0, .int .u8 0, .int .u8 0, .int .u8 0, .bool false, .bool false, .int .u32 0, .int .u32 0] : List Value), v.oneCell' = true) := veil (by intro v hv; simp at hv; first | (subst hv; rfl) | (rcases hv with rfl | rfl <;> rfl) | (rcases hv with rfl | rfl | rfl <;> rfl) | (rcases hv with rfl | rfl | rfl | rfl <;> rfl))
  obtain ⟨k, A, n, c⟩ := x
  have hnl : zs.length = n := (slc_of hs).1
  cases right
  · have L8 := veil (Y0.load (P := Tryd.prog) (ty := 54) (vs := [.int .u8 0, .int .u8 0, .int .u8 0, .int .u8 0, .int .u8 0, .int .u8 0, .int .u8 0, .int .u8 0, .int .u8 0, .int .u8 0, .int .u8 0, .int .u8 0, .int .u8 0, .int .u8 0, .int .u8 0, .int .u8 0, .int .u8 0, .bool false, .bool false, .int .u32 0, .int .u32 0]) mem0 (part_all _) Tryd.underlying54 rfl hsZ.out)
    have T8 := veil (store_all (P := Tryd.prog) (ty := 54) (vs := [.int .u8 0, .int .u8 0, .int .u8 0, .int .u8 0, .int .u8 0, .int .u8 0, .int .u8 0, .int .u8 0, .int .u8 0, .int .u8 0, .int .u8 0, .int .u8 0, .int .u8 0, .int .u8 0, .int .u8 0, .int .u8 0, .int .u8 0, .bool false, .bool false, .int .u32 0, .int .u32 0]) (Y0.at mem1) rfl hsZ.out h1Z.out)
    have Y8 := Y0.put 1 rfl [.int .u8 0, .int .u8 0, .int .u8 0, .int .u8 0, .int .u8 0, .int .u8 0, .int .u8 0, .int .u8 0, .int .u8 0, .int .u8 0, .int .u8 0, .int .u8 0, .int .u8 0, .int .u8 0, .int .u8 0, .int .u8 0, .int .u8 0, .bool false, .bool false, .int .u32 0, .int .u32 0]
    simp only [List.set_cons_zero, List.set_cons_succ] at Y8
    have VY8 := veil Y8
    clear hread hV hs Y0 Y8 hz1
    subst hZ1
    go_enter Tryd.func85, Tryd.ntmps85
    go_wp2_with (first
      | (refine wpList_load_of rfl (.tmp 8) rfl rfl L8.out ?_)
      | (refine wpList_store_of rfl _ _ rfl rfl rfl T8.out ?_))
    refine bodyPost_ret (ret_row_tmp rfl rfl rfl (VY8.out.range mem1 (part_all _)) Tryd.underlying54 rfl hsZ.out) rfl ?_
    exact ⟨[], [.int .u8 0, .int .u8 0, .int .u8 0, .int .u8 0, .int .u8 0, .int .u8 0, .int .u8 0, .int .u8 0, .int .u8 0, .int .u8 0, .int .u8 0, .int .u8 0, .int .u8 0, .int .u8 0, .int .u8 0, .int .u8 0, .int .u8 0, .bool false, .bool false, .int .u32 0, .int .u32 0], ⟨rfl, rfl⟩, rfl, VY8.out.sub (List.nil_sublist _)⟩
  · have c1 := Y0.look mem2 (o := 1) (v := .slice A n c) rfl
    have hs0 := hs.keep Y0.below
    have KO := veil (Y0.cut (zs := zs) A n c hnl (by omega) (slc_of hs0).2.1)
    have HR := veil hread
    have HV := veil hV
    have HN := veil hnl
    clear hread hV hs Y0 hz1 hs0 hnl hn
    subst hZ1
    go_enter Tryd.func85, Tryd.ntmps85
    go_wp2_with fail
    clear hu0 c1
    refine (KO.out).mono ?_
    rintro e w1 ⟨b, hb, rfl, Y1, _⟩
    have KR := veil (HR.out w1 _ 0 (b + 1) b Y1 (by rw [HN.out]; rfl) mem1 (by omega))
    clear KO Y1 hb HR
    go_wp2_with fail
    refine (KR.out).mono ?_
    rintro e w3 ⟨E, R0, ⟨R, rfl, VR⟩, rfl, Y3⟩
    simp only [List.set_cons_zero, List.cons_append, List.nil_append] at Y3
    obtain ⟨hlR, h1R⟩ := HV.out E R VR
    obtain ⟨Z3, hZ3⟩ : ∃ Z : Array Value, Z = #[.int .u8 0, .int .u8 0, .int .u8 0, .int .u8 0, .int .u8 0, .int .u8 0, .int .u8 0, .int .u8 0, .int .u8 0, .int .u8 0, .int .u8 0, .int .u8 0, .int .u8 0, .int .u8 0, .int .u8 0, .int .u8 0, .int .u8 0, .bool false, .bool false, .int .u32 0, .int .u32 0] := ⟨_, rfl⟩
    have hz3 : R.length = Z3.toList.length := by rw [hZ3, hlR]; rfl
    have hsR : Hid ((Tryd.prog.info? 54).map (·.size) = some R.length) := veil (by rw [hlR]; kernel_rfl)
    have Y4 := Y3.newA Z3 54 (g := w3.heap.size) rfl
    have T3 := veil (store_all (P := Tryd.prog) (ty := 54) (vs := R) (Y4.at mem0) hz3 hsR.out h1R)
    have Y4 := Y4.put 0 rfl R
    simp only [List.set_cons_zero] at Y4
    obtain ⟨w4, hw4⟩ : ∃ u, (w3.alloc (.cells Z3 54)).setRow w3.heap.size R.toArray = u := ⟨_, rfl⟩
    rw [hw4] at T3 Y4
    have VY4 := veil Y4
    have HVR := veil VR
    have h1R' := veil h1R
    have hlR' := veil (show R.length = ([.int .u8 0, .int .u8 0, .int .u8 0, .int .u8 0, .int .u8 0, .int .u8 0, .int .u8 0, .int .u8 0, .int .u8 0, .int .u8 0, .int .u8 0, .int .u8 0, .int .u8 0, .int .u8 0, .int .u8 0, .int .u8 0, .int .u8 0, .bool false, .bool false, .int .u32 0, .int .u32 0] : List Value).length from hlR)
    have KB := veil (Lay.badS (g := b + 1) (b := b) (s := s') Y4 mem1)
    have KL := veil (Lay.leftS (g := b + 1) (b := b) (s := s') Y4 mem1)
    clear KR Y3 Y4 hw4 HV VR h1R hlR hz3
    subst hZ3
    obtain ⟨bad, hbad⟩ : ∃ z, s'.isNone = z := ⟨_, rfl⟩
    obtain ⟨lf, hlf⟩ : ∃ z, leftS s' = z := ⟨_, rfl⟩
    have HA : Hid (allS s' = (!bad && decide (lf = 0))) := veil (by rw [← hbad, ← hlf]; unfold allS; cases s' <;> rfl)
    rw [hbad] at KB
    rw [hlf] at KL
    clear hbad hlf
    have hcase : (ro = false) ∨ (ro = true ∧ bad = true) ∨ (ro = true ∧ bad = false ∧ (0 : Int) < (lf : Int)) ∨ (ro = true ∧ bad = false ∧ lf = 0) := by
      cases ro <;> cases bad <;> simp
      omega
    rcases hcase with rfl | ⟨rfl, rfl⟩ | ⟨rfl, rfl, hpos⟩ | ⟨rfl, rfl, rfl⟩
    · have L9 := veil (VY4.out.load (P := Tryd.prog) (ty := 54) (vs := [.int .u8 0, .int .u8 0, .int .u8 0, .int .u8 0, .int .u8 0, .int .u8 0, .int .u8 0, .int .u8 0, .int .u8 0, .int .u8 0, .int .u8 0, .int .u8 0, .int .u8 0, .int .u8 0, .int .u8 0, .int .u8 0, .int .u8 0, .bool false, .bool false, .int .u32 0, .int .u32 0]) mem3 (part_all _) Tryd.underlying54 rfl hsZ.out)
      have T9 := veil (store_all (P := Tryd.prog) (ty := 54) (vs := [.int .u8 0, .int .u8 0, .int .u8 0, .int .u8 0, .int .u8 0, .int .u8 0, .int .u8 0, .int .u8 0, .int .u8 0, .int .u8 0, .int .u8 0, .int .u8 0, .int .u8 0, .int .u8 0, .int .u8 0, .int .u8 0, .int .u8 0, .bool false, .bool false, .int .u32 0, .int .u32 0]) (VY4.out.at mem4) rfl hsZ.out h1Z.out)
      have Y9 := VY4.out.put 4 rfl [.int .u8 0, .int .u8 0, .int .u8 0, .int .u8 0, .int .u8 0, .int .u8 0, .int .u8 0, .int .u8 0, .int .u8 0, .int .u8 0, .int .u8 0, .int .u8 0, .int .u8 0, .int .u8 0, .int .u8 0, .int .u8 0, .int .u8 0, .bool false, .bool false, .int .u32 0, .int .u32 0]
      simp only [List.set_cons_zero, List.set_cons_succ] at Y9
      have VY9 := veil Y9
      clear Y9 KB KL
      go_wp2_with (first
        | (refine wpList_store_of rfl _ _ rfl rfl rfl T3.out ?_)
        | (refine wpList_load_of rfl (.tmp 8) rfl rfl L9.out ?_)
        | (refine wpList_store_of rfl _ _ rfl rfl rfl T9.out ?_))
      refine bodyPost_ret (ret_row_tmp rfl rfl rfl (VY9.out.range mem4 (part_all _)) Tryd.underlying54 rfl hsZ.out) rfl ?_
      refine ⟨[], [.int .u8 0, .int .u8 0, .int .u8 0, .int .u8 0, .int .u8 0, .int .u8 0, .int .u8 0, .int .u8 0, .int .u8 0, .int .u8 0, .int .u8 0, .int .u8 0, .int .u8 0, .int .u8 0, .int .u8 0, .int .u8 0, .int .u8 0, .bool false, .bool false, .int .u32 0, .int .u32 0], by first | exact ans_no _ _ | (rw [show (true && true && allS s') = false by rw [HA.out]; simp]; exact ans_no _ _), by first | rfl | (rw [HA.out]; simp), VY9.out.sub (List.nil_sublist _)⟩
    · go_wp2_with (refine wpList_store_of rfl _ _ rfl rfl rfl T3.out ?_)
      refine (KB.out).mono ?_
      rintro e w5 ⟨rfl, rfl⟩
      have L9 := veil (VY4.out.load (P := Tryd.prog) (ty := 54) (vs := [.int .u8 0, .int .u8 0, .int .u8 0, .int .u8 0, .int .u8 0, .int .u8 0, .int .u8 0, .int .u8 0, .int .u8 0, .int .u8 0, .int .u8 0, .int .u8 0, .int .u8 0, .int .u8 0, .int .u8 0, .int .u8 0, .int .u8 0, .bool false, .bool false, .int .u32 0, .int .u32 0]) mem3 (part_all _) Tryd.underlying54 rfl hsZ.out)
      have T9 := veil (store_all (P := Tryd.prog) (ty := 54) (vs := [.int .u8 0, .int .u8 0, .int .u8 0, .int .u8 0, .int .u8 0, .int .u8 0, .int .u8 0, .int .u8 0, .int .u8 0, .int .u8 0, .int .u8 0, .int .u8 0, .int .u8 0, .int .u8 0, .int .u8 0, .int .u8 0, .int .u8 0, .bool false, .bool false, .int .u32 0, .int .u32 0]) (VY4.out.at mem4) rfl hsZ.out h1Z.out)
      have Y9 := VY4.out.put 4 rfl [.int .u8 0, .int .u8 0, .int .u8 0, .int .u8 0, .int .u8 0, .int .u8 0, .int .u8 0, .int .u8 0, .int .u8 0, .int .u8 0, .int .u8 0, .int .u8 0, .int .u8 0, .int .u8 0, .int .u8 0, .int .u8 0, .int .u8 0, .bool false, .bool false, .int .u32 0, .int .u32 0]
      simp only [List.set_cons_zero, List.set_cons_succ] at Y9
      have VY9 := veil Y9
      clear Y9 KB KL
      go_wp2_with (first
        | (refine wpList_load_of rfl (.tmp 8) rfl rfl L9.out ?_)
        | (refine wpList_store_of rfl _ _ rfl rfl rfl T9.out ?_))
      refine bodyPost_ret (ret_row_tmp rfl rfl rfl (VY9.out.range mem4 (part_all _)) Tryd.underlying54 rfl hsZ.out) rfl ?_
      refine ⟨[], [.int .u8 0, .int .u8 0, .int .u8 0, .int .u8 0, .int .u8 0, .int .u8 0, .int .u8 0, .int .u8 0, .int .u8 0, .int .u8 0, .int .u8 0, .int .u8 0, .int .u8 0, .int .u8 0, .int .u8 0, .int .u8 0, .int .u8 0, .bool false, .bool false, .int .u32 0, .int .u32 0], by first | exact ans_no _ _ | (rw [show (true && true && allS s') = false by rw [HA.out]; simp]; exact ans_no _ _), by first | rfl | (rw [HA.out]; simp), VY9.out.sub (List.nil_sublist _)⟩
    · go_wp2_with (refine wpList_store_of rfl _ _ rfl rfl rfl T3.out ?_)
      refine (KB.out).mono ?_
      rintro e w5 ⟨rfl, rfl⟩
      go_wp2_with fail
      refine (KL.out).mono ?_
      rintro e w5 ⟨rfl, rfl⟩
      have L9 := veil (VY4.out.load (P := Tryd.prog) (ty := 54) (vs := [.int .u8 0, .int .u8 0, .int .u8 0, .int .u8 0, .int .u8 0, .int .u8 0, .int .u8 0, .int .u8 0, .int .u8 0, .int .u8 0, .int .u8 0, .int .u8 0, .int .u8 0, .int .u8 0, .int .u8 0, .int .u8 0, .int .u8 0, .bool false, .bool false, .int .u32 0, .int .u32 0]) mem3 (part_all _) Tryd.underlying54 rfl hsZ.out)
      have T9 := veil (store_all (P := Tryd.prog) (ty := 54) (vs := [.int .u8 0, .int .u8 0, .int .u8 0, .int .u8 0, .int .u8 0, .int .u8 0, .int .u8 0, .int .u8 0, .int .u8 0, .int .u8 0, .int .u8 0, .int .u8 0, .int .u8 0, .int .u8 0, .int .u8 0, .int .u8 0, .int .u8 0, .bool false, .bool false, .int .u32 0, .int .u32 0]) (VY4.out.at mem4) rfl hsZ.out h1Z.out)
      have Y9 := VY4.out.put 4 rfl [.int .u8 0, .int .u8 0, .int .u8 0, .int .u8 0, .int .u8 0, .int .u8 0, .int .u8 0, .int .u8 0, .int .u8 0, .int .u8 0, .int .u8 0, .int .u8 0, .int .u8 0, .int .u8 0, .int .u8 0, .int .u8 0, .int .u8 0, .bool false, .bool false, .int .u32 0, .int .u32 0]
      simp only [List.set_cons_zero, List.set_cons_succ] at Y9
      have VY9 := veil Y9
      have hne : ¬ lf = 0 := by omega
      clear Y9 KB KL
      go_wp2_with (first
        | (refine wpList_load_of rfl (.tmp 8) rfl rfl L9.out ?_)
        | (refine wpList_store_of rfl _ _ rfl rfl rfl T9.out ?_))
      refine bodyPost_ret (ret_row_tmp rfl rfl rfl (VY9.out.range mem4 (part_all _)) Tryd.underlying54 rfl hsZ.out) rfl ?_
      refine ⟨[], [.int .u8 0, .int .u8 0, .int .u8 0, .int .u8 0, .int .u8 0, .int .u8 0, .int .u8 0, .int .u8 0, .int .u8 0, .int .u8 0, .int .u8 0, .int .u8 0, .int .u8 0, .int .u8 0, .int .u8 0, .int .u8 0, .int .u8 0, .bool false, .bool false, .int .u32 0, .int .u32 0], by first | exact ans_no _ _ | (rw [show (true && true && allS s') = false by rw [HA.out]; simp [hne]]; exact ans_no _ _), by first | rfl | (rw [HA.out]; simp [hne]), VY9.out.sub (List.nil_sublist _)⟩
    · go_wp2_with (refine wpList_store_of rfl _ _ rfl rfl rfl T3.out ?_)
      refine (KB.out).mono ?_
      rintro e w5 ⟨rfl, rfl⟩
      go_wp2_with fail
      refine (KL.out).mono ?_
      rintro e w5 ⟨rfl, rfl⟩
      have L9 := veil (VY4.out.load (P := Tryd.prog) (ty := 54) (vs := R) mem0 (part_all _) Tryd.underlying54 rfl hsR.out)
      have T9 := veil (store_all (P := Tryd.prog) (ty := 54) (vs := R) (VY4.out.at mem4) hlR'.out hsR.out h1R'.out)
      have Y9 := VY4.out.put 4 rfl R
      simp only [List.set_cons_zero, List.set_cons_succ] at Y9
      have VY9 := veil Y9
      clear Y9 KB KL
      go_wp2_with (first
        | (refine wpList_load_of rfl (.tmp 10) rfl rfl L9.out ?_)
        | (refine wpList_store_of rfl _ _ rfl rfl rfl T9.out ?_))
      refine bodyPost_ret (ret_row_tmp rfl rfl rfl (VY9.out.range mem4 (part_all _)) Tryd.underlying54 rfl hsR.out) rfl ?_
      refine ⟨E, R, by rw [show (true && true && allS s') = true by rw [HA.out]; simp]; exact ans_yes HVR.out, by rw [HA.out]; simp, VY9.out.sub (List.Sublist.cons _ (List.Sublist.cons _ (List.Sublist.cons _ (List.Sublist.cons _ (List.Sublist.cons _ (List.Sublist.cons _ (List.Sublist.refl _)))))))⟩

set_option linter.unusedSimpArgs false in
set_option maxHeartbeats 16000000 in
theorem toldServers (x : El) (zs : List Int) (right ro : Bool) (s' : St) (V : List Blk → List Value → Prop) (w : World) (hs : Slc w x.v zs) (hn : zs.length ≤ 16000000) (hV : ∀ E R, V E R → R.length = 2 ∧ ∀ v ∈ R, v.oneCell' = true)
    (hread : Reads1 90 w zs ro s' (fun E u => ∃ R, u = .agg R.toArray ∧ V E R)) :
    Calls Tryd.prog 89 #[ov x, .bool right, fnv 90] w fun e w' => ∃ E R, Ans (right && ro && allS s') V [.int .u32 0, .slice none 0 0] E R ∧ e = .returned (.tuple #[.agg R.toArray, .bool (right && ro && allS s')]) ∧ Lay w w' E := by
  obtain ⟨Z1, hZ1⟩ : ∃ Z : Array Value, Z = #[.int .u32 0, .slice none 0 0] := ⟨_, rfl⟩
  have hz1 : Z1.toList = [.int .u32 0, .slice none 0 0] := by rw [hZ1]
  have Y0 := (((Lay.begin w).new (tv x) 29 (g := w.heap.size) rfl).newA Z1 120 (g := w.heap.size + 1) (by simp)).newA Z1 120 (g := w.heap.size + 2) (by simp)
  rw [hz1] at Y0
  obtain ⟨u0, hu0⟩ : ∃ u, ((w.alloc (.cells (tv x).toArray 29)).alloc (.cells Z1 120)).alloc (.cells Z1 120) = u := ⟨_, rfl⟩
  rw [hu0] at Y0
  have hsZ : Hid ((Tryd.prog.info? 120).map (·.size) = some ([.int .u32 0, .slice none 0 0] : List Value).length) := veil (by kernel_rfl)
  have h1Z : Hid (∀ v ∈ ([.int .u32 0, .slice none 0 0] : List Value), v.oneCell' = true) := veil (by intro v hv; simp at hv; first | (subst hv; rfl) | (rcases hv with rfl | rfl <;> rfl) | (rcases hv with rfl | rfl | rfl <;> rfl) | (rcases hv with rfl | rfl | rfl | rfl <;> rfl))
  obtain ⟨k, A, n, c⟩ := x
  have hnl : zs.length = n := (slc_of hs).1
  cases right
  · have L8 := veil (Y0.load (P := Tryd.prog) (ty := 120) (vs := [.int .u32 0, .slice none 0 0]) mem0 (part_all _) Tryd.underlying120 rfl hsZ.out)
    have T8 := veil (store_all (P := Tryd.prog) (ty := 120) (vs := [.int .u32 0, .slice none 0 0]) (Y0.at mem1) rfl hsZ.out h1Z.out)
    have Y8 := Y0.put 1 rfl [.int .u32 0, .slice none 0 0]
    simp only [List.set_cons_zero, List.set_cons_succ] at Y8
    have VY8 := veil Y8
    clear hread hV hs Y0 Y8 hz1
    subst hZ1
    go_enter Tryd.func89, Tryd.ntmps89
    go_wp2_with (first
      | (refine wpList_load_of rfl (.tmp 8) rfl rfl L8.out ?_)
      | (refine wpList_store_of rfl _ _ rfl rfl rfl T8.out ?_))
    refine bodyPost_ret (ret_row_tmp rfl rfl rfl (VY8.out.range mem1 (part_all _)) Tryd.underlying120 rfl hsZ.out) rfl ?_
    exact ⟨[], [.int .u32 0, .slice none 0 0], ⟨rfl, rfl⟩, rfl, VY8.out.sub (List.nil_sublist _)⟩
  · have c1 := Y0.look mem2 (o := 1) (v := .slice A n c) rfl
    have hs0 := hs.keep Y0.below
    have KO := veil (Y0.cut (zs := zs) A n c hnl (by omega) (slc_of hs0).2.1)
    have HR := veil hread
    have HV := veil hV
    have HN := veil hnl
    clear hread hV hs Y0 hz1 hs0 hnl hn
    subst hZ1
    go_enter Tryd.func89, Tryd.ntmps89
    go_wp2_with fail
    clear hu0 c1
    refine (KO.out).mono ?_
    rintro e w1 ⟨b, hb, rfl, Y1, _⟩
    have KR := veil (HR.out w1 _ 0 (b + 1) b Y1 (by rw [HN.out]; rfl) mem1 (by omega))
    clear KO Y1 hb HR
    go_wp2_with fail
    refine (KR.out).mono ?_
    rintro e w3 ⟨E, R0, ⟨R, rfl, VR⟩, rfl, Y3⟩
    simp only [List.set_cons_zero, List.cons_append, List.nil_append] at Y3
    obtain ⟨hlR, h1R⟩ := HV.out E R VR
    obtain ⟨Z3, hZ3⟩ : ∃ Z : Array Value, Z = #[.int .u32 0, .slice none 0 0] := ⟨_, rfl⟩
    have hz3 : R.length = Z3.toList.length := by rw [hZ3, hlR]; rfl
    have hsR : Hid ((Tryd.prog.info? 120).map (·.size) = some R.length) := veil (by rw [hlR]; kernel_rfl)
    have Y4 := Y3.newA Z3 120 (g := w3.heap.size) rfl
    have T3 := veil (store_all (P := Tryd.prog) (ty := 120) (vs := R) (Y4.at mem0) hz3 hsR.out h1R)
    have Y4 := Y4.put 0 rfl R
    simp only [List.set_cons_zero] at Y4
    obtain ⟨w4, hw4⟩ : ∃ u, (w3.alloc (.cells Z3 120)).setRow w3.heap.size R.toArray = u := ⟨_, rfl⟩
    rw [hw4] at T3 Y4
    have VY4 := veil Y4
    have HVR := veil VR
    have h1R' := veil h1R
    have hlR' := veil (show R.length = ([.int .u32 0, .slice none 0 0] : List Value).length from hlR)
    have KB := veil (Lay.badS (g := b + 1) (b := b) (s := s') Y4 mem1)
    have KL := veil (Lay.leftS (g := b + 1) (b := b) (s := s') Y4 mem1)
    clear KR Y3 Y4 hw4 HV VR h1R hlR hz3
    subst hZ3
    obtain ⟨bad, hbad⟩ : ∃ z, s'.isNone = z := ⟨_, rfl⟩
    obtain ⟨lf, hlf⟩ : ∃ z, leftS s' = z := ⟨_, rfl⟩
    have HA : Hid (allS s' = (!bad && decide (lf = 0))) := veil (by rw [← hbad, ← hlf]; unfold allS; cases s' <;> rfl)
    rw [hbad] at KB
    rw [hlf] at KL
    clear hbad hlf
    have hcase : (ro = false) ∨ (ro = true ∧ bad = true) ∨ (ro = true ∧ bad = false ∧ (0 : Int) < (lf : Int)) ∨ (ro = true ∧ bad = false ∧ lf = 0) := by
      cases ro <;> cases bad <;> simp
      omega
    rcases hcase with rfl | ⟨rfl, rfl⟩ | ⟨rfl, rfl, hpos⟩ | ⟨rfl, rfl, rfl⟩
    · have L9 := veil (VY4.out.load (P := Tryd.prog) (ty := 120) (vs := [.int .u32 0, .slice none 0 0]) mem3 (part_all _) Tryd.underlying120 rfl hsZ.out)
      have T9 := veil (store_all (P := Tryd.prog) (ty := 120) (vs := [.int .u32 0, .slice none 0 0]) (VY4.out.at mem4) rfl hsZ.out h1Z.out)
      have Y9 := VY4.out.put 4 rfl [.int .u32 0, .slice none 0 0]
      simp only [List.set_cons_zero, List.set_cons_succ] at Y9
      have VY9 := veil Y9
      clear Y9 KB KL
      go_wp2_with (first
        | (refine wpList_store_of rfl _ _ rfl rfl rfl T3.out ?_)
        | (refine wpList_load_of rfl (.tmp 8) rfl rfl L9.out ?_)
        | (refine wpList_store_of rfl _ _ rfl rfl rfl T9.out ?_))
      refine bodyPost_ret (ret_row_tmp rfl rfl rfl (VY9.out.range mem4 (part_all _)) Tryd.underlying120 rfl hsZ.out) rfl ?_
      refine ⟨[], [.int .u32 0, .slice none 0 0], by first | exact ans_no _ _ | (rw [show (true && true && allS s') = false by rw [HA.out]; simp]; exact ans_no _ _), by first | rfl | (rw [HA.out]; simp), VY9.out.sub (List.nil_sublist _)⟩
    · go_wp2_with (refine wpList_store_of rfl _ _ rfl rfl rfl T3.out ?_)
      refine (KB.out).mono ?_
      rintro e w5 ⟨rfl, rfl⟩
      have L9 := veil (VY4.out.load (P := Tryd.prog) (ty := 120) (vs := [.int .u32 0, .slice none 0 0]) mem3 (part_all _) Tryd.underlying120 rfl hsZ.out)
      have T9 := veil (store_all (P := Tryd.prog) (ty := 120) (vs := [.int .u32 0, .slice none 0 0]) (VY4.out.at mem4) rfl hsZ.out h1Z.out)
      have Y9 := VY4.out.put 4 rfl [.int .u32 0, .slice none 0 0]
      simp only [List.set_cons_zero, List.set_cons_succ] at Y9
      have VY9 := veil Y9
      clear Y9 KB KL
      go_wp2_with (first
        | (refine wpList_load_of rfl (.tmp 8) rfl rfl L9.out ?_)
        | (refine wpList_store_of rfl _ _ rfl rfl rfl T9.out ?_))
      refine bodyPost_ret (ret_row_tmp rfl rfl rfl (VY9.out.range mem4 (part_all _)) Tryd.underlying120 rfl hsZ.out) rfl ?_
      refine ⟨[], [.int .u32 0, .slice none 0 0], by first | exact ans_no _ _ | (rw [show (true && true && allS s') = false by rw [HA.out]; simp]; exact ans_no _ _), by first | rfl | (rw [HA.out]; simp), VY9.out.sub (List.nil_sublist _)⟩
    · go_wp2_with (refine wpList_store_of rfl _ _ rfl rfl rfl T3.out ?_)
      refine (KB.out).mono ?_
      rintro e w5 ⟨rfl, rfl⟩
      go_wp2_with fail
      refine (KL.out).mono ?_
      rintro e w5 ⟨rfl, rfl⟩
      have L9 := veil (VY4.out.load (P := Tryd.prog) (ty := 120) (vs := [.int .u32 0, .slice none 0 0]) mem3 (part_all _) Tryd.underlying120 rfl hsZ.out)
      have T9 := veil (store_all (P := Tryd.prog) (ty := 120) (vs := [.int .u32 0, .slice none 0 0]) (VY4.out.at mem4) rfl hsZ.out h1Z.out)
      have Y9 := VY4.out.put 4 rfl [.int .u32 0, .slice none 0 0]
      simp only [List.set_cons_zero, List.set_cons_succ] at Y9
      have VY9 := veil Y9
      have hne : ¬ lf = 0 := by omega
      clear Y9 KB KL
      go_wp2_with (first
        | (refine wpList_load_of rfl (.tmp 8) rfl rfl L9.out ?_)
        | (refine wpList_store_of rfl _ _ rfl rfl rfl T9.out ?_))
      refine bodyPost_ret (ret_row_tmp rfl rfl rfl (VY9.out.range mem4 (part_all _)) Tryd.underlying120 rfl hsZ.out) rfl ?_
      refine ⟨[], [.int .u32 0, .slice none 0 0], by first | exact ans_no _ _ | (rw [show (true && true && allS s') = false by rw [HA.out]; simp [hne]]; exact ans_no _ _), by first | rfl | (rw [HA.out]; simp [hne]), VY9.out.sub (List.nil_sublist _)⟩
    · go_wp2_with (refine wpList_store_of rfl _ _ rfl rfl rfl T3.out ?_)
      refine (KB.out).mono ?_
      rintro e w5 ⟨rfl, rfl⟩
      go_wp2_with fail
      refine (KL.out).mono ?_
      rintro e w5 ⟨rfl, rfl⟩
      have L9 := veil (VY4.out.load (P := Tryd.prog) (ty := 120) (vs := R) mem0 (part_all _) Tryd.underlying120 rfl hsR.out)
      have T9 := veil (store_all (P := Tryd.prog) (ty := 120) (vs := R) (VY4.out.at mem4) hlR'.out hsR.out h1R'.out)
      have Y9 := VY4.out.put 4 rfl R
      simp only [List.set_cons_zero, List.set_cons_succ] at Y9
      have VY9 := veil Y9
      clear Y9 KB KL
      go_wp2_with (first
        | (refine wpList_load_of rfl (.tmp 10) rfl rfl L9.out ?_)
        | (refine wpList_store_of rfl _ _ rfl rfl rfl T9.out ?_))
      refine bodyPost_ret (ret_row_tmp rfl rfl rfl (VY9.out.range mem4 (part_all _)) Tryd.underlying120 rfl hsR.out) rfl ?_
      refine ⟨E, R, by rw [show (true && true && allS s') = true by rw [HA.out]; simp]; exact ans_yes HVR.out, by rw [HA.out]; simp, VY9.out.sub (List.Sublist.cons _ (List.Sublist.cons _ (List.Sublist.cons _ (List.Sublist.cons _ (List.Sublist.cons _ (List.Sublist.cons _ (List.Sublist.refl _)))))))⟩

def ansN (ok : Bool) (v : Int) : Int := if ok = true then v else 0
set_option linter.unusedSimpArgs false in
set_option maxHeartbeats 16000000 in
theorem told32 (x : El) (zs : List Int) (right : Bool) (s' : St) (v : Int) (w : World) (hs : Slc w x.v zs) (hn : zs.length ≤ 16000000)
    (hread : ∀ (w1 : World) (L : List Blk) (i g b : Nat), Lay w w1 L → L[i]? = some (g, 130, cS b (some (0, zs.length))) → (b, 5, bv zs) ∈ L → b ≠ g →
      Calls Tryd.prog 88 #[.pointer (some ⟨g, 0, none⟩)] w1 fun e w' => e = .returned (.tuple #[.int .u32 v, .bool true]) ∧ Lay w w' (L.set i (g, 130, cS b s'))) :
    Calls Tryd.prog 87 #[ov x, .bool right, fnv 88] w fun e w' => e = .returned (.tuple #[.int .u32 (ansN (right && allS s') v), .bool (right && allS s')]) ∧ Below w.heap.size w w' := by
  have Y0 := (Lay.begin w).new (tv x) 29 (g := w.heap.size) rfl
  obtain ⟨u0, hu0⟩ : ∃ u, w.alloc (.cells (tv x).toArray 29) = u := ⟨_, rfl⟩
  rw [hu0] at Y0
  obtain ⟨k, A, n, c⟩ := x
  have hnl : zs.length = n := (slc_of hs).1
  cases right
  · have VQ := veil Y0.below
    clear hread hs Y0
    go_enter Tryd.func87, Tryd.ntmps87
    go_wp2_with fail
    refine bodyPost_ret (results_tmp2 rfl _ _ _) rfl ?_
    exact ⟨rfl, VQ.out⟩
  · have c1 := Y0.look mem0 (o := 1) (v := .slice A n c) rfl
    have hs0 := hs.keep Y0.below
    have KO := veil (Y0.cut (zs := zs) A n c hnl (by omega) (slc_of hs0).2.1)
    have HR := veil hread
    have HN := veil hnl
    clear hread hs Y0 hs0 hnl hn
    go_enter Tryd.func87, Tryd.ntmps87
    go_wp2_with fail
    clear hu0 c1
    refine (KO.out).mono ?_
    rintro e w1 ⟨b, hb, rfl, Y1, _⟩
    have KR := veil (HR.out w1 _ 0 (b + 1) b Y1 (by rw [HN.out]; rfl) mem1 (by omega))
    clear KO Y1 hb HR
    go_wp2_with fail
    refine (KR.out).mono ?_
    rintro e w3 ⟨rfl, Y3⟩
    simp only [List.set_cons_zero] at Y3
    have VQ := veil Y3.below
    have KB := veil (Lay.badS (g := b + 1) (b := b) (s := s') Y3 mem0)
    have KL := veil (Lay.leftS (g := b + 1) (b := b) (s := s') Y3 mem0)
    clear KR Y3
    obtain ⟨bad, hbad⟩ : ∃ z, s'.isNone = z := ⟨_, rfl⟩
    obtain ⟨lf, hlf⟩ : ∃ z, leftS s' = z := ⟨_, rfl⟩
    have HA : Hid (allS s' = (!bad && decide (lf = 0))) := veil (by rw [← hbad, ← hlf]; unfold allS; cases s' <;> rfl)
    rw [hbad] at KB
    rw [hlf] at KL
    clear hbad hlf
    have hcase : (bad = true) ∨ (bad = false ∧ (0 : Int) < (lf : Int)) ∨ (bad = false ∧ lf = 0) := by
      cases bad <;> simp
      omega
    rcases hcase with rfl | ⟨rfl, hpos⟩ | ⟨rfl, rfl⟩
    · go_wp2_with fail
      refine (KB.out).mono ?_
      rintro e w5 ⟨rfl, rfl⟩
      clear KB KL
      go_wp2_with fail
      refine bodyPost_ret (results_tmp2 rfl _ _ _) rfl ?_
      rw [show (true && allS s') = false by rw [HA.out]; simp]
      exact ⟨rfl, VQ.out⟩
    · go_wp2_with fail
      refine (KB.out).mono ?_
      rintro e w5 ⟨rfl, rfl⟩
      go_wp2_with fail
      refine (KL.out).mono ?_
      rintro e w5 ⟨rfl, rfl⟩
      have hne : ¬ lf = 0 := by omega
      clear KB KL
      go_wp2_with fail
      refine bodyPost_ret (results_tmp2 rfl _ _ _) rfl ?_
      rw [show (true && allS s') = false by rw [HA.out]; simp [hne]]
      exact ⟨rfl, VQ.out⟩
    · go_wp2_with fail
      refine (KB.out).mono ?_
      rintro e w5 ⟨rfl, rfl⟩
      go_wp2_with fail
      refine (KL.out).mono ?_
      rintro e w5 ⟨rfl, rfl⟩
      clear KB KL
      go_wp2_with fail
      refine bodyPost_ret (results_tmp2 rfl _ _ _) rfl ?_
      rw [show (true && allS s') = true by rw [HA.out]; simp]
      exact ⟨rfl, VQ.out⟩

end Go.Proofs.YtdebifkefpclaaaDoor.Oz
