/-
  The bytes of a frame, by the document's answer: whatever frame it is.
  Conditions: addresses of six bytes; a kind of two bytes; a body that reads as bytes, 16000000 at most.
-/
import Derived.Test.YtihhbniceiammaaFrmP
import Derived.Test.YtihhbniceiammaaGrow
namespace Go.Proofs.Ytihhbniceiammaa.Et
open Go.RowKit

theorem be2 (k : Int) (hk : 0 ≤ k ∧ k < 65536) : be k 2 = [k / 256, k % 256] := by
  simp only [be]
  rw [show (256 : Int) ^ 1 = 256 from rfl, show (256 : Int) ^ 0 = 1 from rfl, Int.ediv_one]
  congr 1
  omega

set_option maxHeartbeats 300000 in
theorem refPut_any (d s : List Int) (k : Int) (A : Option Addr) (n c : Nat) (zs : List Int) (w : World) (M : Macs d s) (hk : 0 ≤ k ∧ k < 65536) (hn : n ≤ 16000000) (ha : Slc w (.slice A n c) zs) :
    Calls Try.prog 12 #[fv d s k (.slice A n c)] w (Gives w (fb d s k zs)) := by
  have Y := (Lay.begin w).new (fc d s k (.slice A n c)) 27 (g := w.heap.size) rfl
  have G0 := Grow.begin Y
  obtain ⟨v1, w1, h1, G1⟩ := G0.append (slc_part (n := 6) (c := 6) (Y.at mem0) fc_dst M.d (by omega)) (by simp [M.d]) 25
  obtain ⟨v2, w2, h2, G2⟩ := G1.append (slc_part (n := 6) (c := 6) (G1.lay.at mem0) (fc_src M) M.s (by omega)) (by simp [M.d, M.s]) 25
  have c2 := (frmAt G2.lay mem0 M).kind
  have G3 := G2.keep (below_new w2 (.cells (bv (be k 2)).toArray 5))
  obtain ⟨v4, w4, h4, G4⟩ := G3.append (slc_part (n := 2) (c := 2) (row_new (w := w2) (g := w2.heap.size) (t := 5) (cs := (bv (be k 2)).toArray) rfl) (part_all _) (be_length k 2) (by omega)) (by simp [M.d, M.s, be_length]) 25
  have c4 := (frmAt G4.lay mem0 M).body
  obtain ⟨v5, w5, h5, G5⟩ := G4.append (ha.keep G4.lay.below) (by simp [M.d, M.s, be_length, (slc_of ha).1]; omega) 25
  have GG := veil G5.gives
  rw [show [] ++ d ++ s ++ be k 2 ++ zs = fb d s k zs by simp [fb]] at GG
  rw [be2 k hk] at h4
  have hq : IntKind.u16.wrap (k.tdiv 256) % 256 = k / 256 := by
    rw [Int.tdiv_eq_ediv_of_nonneg hk.1]
    simp [IntKind.wrap, IntKind.signed, IntKind.bits]
    omega
  obtain ⟨r, hr⟩ : ∃ r, k % 256 = r := ⟨_, rfl⟩
  generalize k / 256 = q at hq h4
  rw [hr] at h4
  replace h4 : (Builtin.append_ #[25, 25] 25 #[v2, .slice (some ⟨w2.heap.size, 0, none⟩) 2 2]).run Try.prog (w2.alloc (.cells #[.int .u8 q, .int .u8 r] 5)) = .ok v4 w4 := h4
  have H1 := veil h1
  have H2 := veil h2
  have H4 := veil h4
  have H5 := veil h5
  clear Y G0 h1 h2 h4 h5 G1 G2 G3 G4 G5 ha M
  go_enter Try.func12, Try.ntmps12
  go_wp2_with (first
    | (at_builtin; refine wpList_append_run rfl (.tmp 4) (.tmp 6) rfl rfl rfl H1.out ?_)
    | (at_builtin; refine wpList_append_run rfl (.tmp 8) (.tmp 10) rfl rfl rfl H2.out ?_)
    | (at_builtin; refine wpList_append_run rfl (.tmp 12) (.tmp 21) rfl rfl rfl H4.out ?_)
    | (at_builtin; refine wpList_append_run rfl (.tmp 23) (.tmp 25) rfl rfl rfl H5.out ?_))
  go_ret
  exact GG.out

end Go.Proofs.Ytihhbniceiammaa.Et
