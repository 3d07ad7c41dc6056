/-
  How many calls read something from an option, by the code's own calls.
  Conditions: data that read as bytes, at most 16000000.
-/
import Derived.Test.YtdebifkefpclaaaDoorOpoO
namespace Go.Proofs.YtdebifkefpclaaaDoor.Oz
set_option maxRecDepth 100000
open Go.RowKit Ops

def b2i : Bool → Int
  | true => 1
  | false => 0
/-- how many calls read something -/
def rdN (k : Int) (zs : List Int) : Int := b2i (macB k zs.length) + b2i (preB k zs) + b2i (mtuB k zs.length) + b2i (serOk k zs.length)

set_option linter.unusedSimpArgs false in
set_option maxHeartbeats 16000000 in
theorem reads_any (x : El) (zs : List Int) (w : World) (hs : Slc w x.v zs) (hz : Byt zs) (hn : zs.length ≤ 16000000) :
    Calls Tryd.prog 56 #[ov x] w fun e w' => e = .returned (.int .i64 (rdN x.k zs)) ∧ Below w.heap.size w w' := by
  have Y0 := (Lay.begin w).new (tv x) 29 (g := w.heap.size) rfl
  obtain ⟨u0, hu0⟩ : ∃ u, w.alloc (.cells (tv x).toArray 29) = u := ⟨_, rfl⟩
  rw [hu0] at Y0
  have HS := veil hs
  have L0 := veil (Y0.load (P := Tryd.prog) (ty := 29) (vs := tv x) mem0 (part_all _) Tryd.underlying29 rfl zeroO)
  have K1 := veil (mac_any x zs u0 (hs.keep Y0.below) hz hn)
  have VY0 := veil Y0
  have HZ := veil hz
  have HN := veil hn
  obtain ⟨b1, h1⟩ : ∃ b, macB x.k zs.length = b := ⟨_, rfl⟩
  obtain ⟨b2, h2⟩ : ∃ b, preB x.k zs = b := ⟨_, rfl⟩
  obtain ⟨b3, h3⟩ : ∃ b, mtuB x.k zs.length = b := ⟨_, rfl⟩
  obtain ⟨b4, h4⟩ : ∃ b, serOk x.k zs.length = b := ⟨_, rfl⟩
  have HB := veil (And.intro h1 (And.intro h2 (And.intro h3 h4)))
  have HR : Hid (rdN x.k zs = b2i b1 + b2i b2 + b2i b3 + b2i b4) := veil (by unfold rdN; rw [h1, h2, h3, h4])
  rw [h1] at K1
  obtain ⟨g0, hg0⟩ : ∃ g, w.heap.size = g := ⟨_, rfl⟩
  rw [hg0] at VY0 L0
  clear hs hz hn Y0 h1 h2 h3 h4
  go_enter Tryd.func56, Tryd.ntmps56
  go_wp2_with (refine wpList_load_of rfl (.tmp 1) rfl rfl L0.out ?_)
  clear hu0 hg0
  refine (K1.out).mono ?_
  rintro e w1 ⟨E, R, hA, rfl, X⟩
  obtain ⟨hl, h1⟩ := ans_mem (n := 6) hA (fun E R h => by obtain ⟨_, rfl⟩ := h; exact ⟨by rw [bv_length, padV_len], bv_one _⟩) ⟨rfl, by intro v hv; simp at hv; first | (subst hv; rfl) | (rcases hv with rfl | rfl <;> rfl) | (rcases hv with rfl | rfl | rfl <;> rfl)⟩
  have hsR : Hid ((Tryd.prog.info? 47).map (·.size) = some R.length) := veil (by rw [hl]; kernel_rfl)
  obtain ⟨ZF, hZF⟩ : ∃ Z : Array Value, Z = #[.int .u8 0, .int .u8 0, .int .u8 0, .int .u8 0, .int .u8 0, .int .u8 0] := ⟨_, rfl⟩
  have hzf : R.length = ZF.toList.length := by rw [hZF, hl]; rfl
  have X1 := (Lay.begin w1).newA ZF 47 (g := w1.heap.size) rfl
  have T1 := veil (store_all (P := Tryd.prog) (ty := 47) (vs := R) (X1.at mem0) hzf hsR.out h1)
  have X2 := X1.put 0 rfl R
  simp only [List.set_cons_zero] at X2
  obtain ⟨u1, hu1⟩ : ∃ u, (w1.alloc (.cells ZF 47)).setRow w1.heap.size R.toArray = u := ⟨_, rfl⟩
  rw [hu1] at T1 X2
  have VY1 := veil ((VY0.out.keep X.below).keep X2.below)
  have L1 := veil (VY1.out.load (P := Tryd.prog) (ty := 29) (vs := tv x) mem0 (part_all _) Tryd.underlying29 rfl zeroO)
  clear K1 hA X X1 X2 hl h1 hzf hu1 L0 VY0
  subst hZF
  have K2 := veil (prefix_any x zs u1 (HS.out.keep VY1.out.below) HZ.out HN.out)
  rw [HB.out.2.1] at K2
  go_wp2_with (first
    | (refine wpList_store_of rfl _ _ rfl rfl rfl T1.out ?_)
    | (refine wpList_load_of rfl (.tmp 1) rfl rfl L1.out ?_))
  clear T1
  refine (K2.out).mono ?_
  rintro e w2 ⟨E, R, hA, rfl, X⟩
  obtain ⟨hl, h1⟩ := ans_mem (n := 21) hA (fun E R h => by obtain ⟨_, rfl⟩ := h; exact ⟨pic_len (prefV_fit HZ.out (ok0 zs)), pic_one _⟩) ⟨rfl, by intro v hv; simp at hv; first | (subst hv; rfl) | (rcases hv with rfl | rfl <;> rfl) | (rcases hv with rfl | rfl | rfl <;> rfl)⟩
  have hsR : Hid ((Tryd.prog.info? 54).map (·.size) = some R.length) := veil (by rw [hl]; kernel_rfl)
  obtain ⟨ZF, hZF⟩ : ∃ Z : Array Value, Z = #[.int .u8 0, .int .u8 0, .int .u8 0, .int .u8 0, .int .u8 0, .int .u8 0, .int .u8 0, .int .u8 0, .int .u8 0, .int .u8 0, .int .u8 0, .int .u8 0, .int .u8 0, .int .u8 0, .int .u8 0, .int .u8 0, .int .u8 0, .bool false, .bool false, .int .u32 0, .int .u32 0] := ⟨_, rfl⟩
  have hzf : R.length = ZF.toList.length := by rw [hZF, hl]; rfl
  have X1 := (Lay.begin w2).newA ZF 54 (g := w2.heap.size) rfl
  have T2 := veil (store_all (P := Tryd.prog) (ty := 54) (vs := R) (X1.at mem0) hzf hsR.out h1)
  have X2 := X1.put 0 rfl R
  simp only [List.set_cons_zero] at X2
  obtain ⟨u2, hu2⟩ : ∃ u, (w2.alloc (.cells ZF 54)).setRow w2.heap.size R.toArray = u := ⟨_, rfl⟩
  rw [hu2] at T2 X2
  have VY2 := veil ((VY1.out.keep X.below).keep X2.below)
  have L2 := veil (VY2.out.load (P := Tryd.prog) (ty := 29) (vs := tv x) mem0 (part_all _) Tryd.underlying29 rfl zeroO)
  clear K2 hA X X1 X2 hl h1 hzf hu2 L1 VY1
  subst hZF
  have K3 := veil (mtuOf_any x zs u2 (HS.out.keep VY2.out.below) HZ.out HN.out)
  rw [HB.out.2.2.1] at K3
  go_wp2_with (first
    | (refine wpList_store_of rfl _ _ rfl rfl rfl T2.out ?_)
    | (refine wpList_load_of rfl (.tmp 1) rfl rfl L2.out ?_))
  clear T2
  refine (K3.out).mono ?_
  rintro e w3 ⟨rfl, q3⟩
  have VY3 := veil (VY2.out.keep q3)
  have L3 := veil (VY3.out.load (P := Tryd.prog) (ty := 29) (vs := tv x) mem0 (part_all _) Tryd.underlying29 rfl zeroO)
  have K4 := veil (serversOf_any x zs w3 (HS.out.keep VY3.out.below) HZ.out HN.out)
  rw [HB.out.2.2.2] at K4
  clear K3 q3 L2 VY2
  go_wp2_with (refine wpList_load_of rfl (.tmp 1) rfl rfl L3.out ?_)
  refine (K4.out).mono ?_
  rintro e w4 ⟨E, v, A, m, hA, rfl, X⟩
  have VQ := veil ((VY3.out.keep X.below).below)
  clear K4 hA X L3 VY3
  cases b1 <;> cases b2 <;> cases b3 <;> cases b4
  all_goals go_wp2_with fail
  all_goals go_ret
  all_goals rw [HR.out]
  all_goals exact ⟨rfl, VQ.out⟩

end Go.Proofs.YtdebifkefpclaaaDoor.Oz
