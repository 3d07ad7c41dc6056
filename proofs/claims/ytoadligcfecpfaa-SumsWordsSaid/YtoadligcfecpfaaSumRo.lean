/-
  The reference's Over: the checksum of the pseudo header and the bytes; what was there stays.
  Conditions: each address has 16 bytes; at most 15000000 bytes.
-/
import Derived.Test.YtoadligcfecpfaaSumOv
import Derived.Test.YtoadligcfecpfaaSumRef
namespace Go.Proofs.Ytoadligcfecpfaa
open Go.RowKit

theorem be_four (n : Int) (h0 : 0 ≤ n) (h : n ≤ 15000000) : be n 4 = [n / 16777216, n / 65536 % 256, n / 256 % 256, n % 256] := by
  simp only [be]
  rw [show (256 : Int) ^ 3 = 16777216 by decide, show (256 : Int) ^ 2 = 65536 by decide, show (256 : Int) ^ 1 = 256 by decide, show (256 : Int) ^ 0 = 1 by decide]
  have e : n / 16777216 % 256 = n / 16777216 := by omega
  rw [e, Int.ediv_one]

set_option maxHeartbeats 2000000 in
theorem refOver_any (s d : List Int) (nx : Int) (A : Option Addr) (n c : Nat) (zs : List Int) (w : World) (hs : s.length = 16) (hd : d.length = 16) (bs : Byt s) (bd : Byt d) (hnx : 0 ≤ nx ∧ nx ≤ 255) (hl : zs.length = n) (hn : n ≤ 15000000) (hz : Slc w (.slice A n c) zs) (bz : Byt zs) :
    Calls Try.prog 13 #[.agg (bv s).toArray, .agg (bv d).toArray, .int .u8 nx, .slice A n c] w fun e w' => e = .returned (.int .u16 (ck (ph s d n nx ++ zs))) ∧ Below w.heap.size w w' := by
  have HB := veil (ph_byt (n := n) bs bd hnx)
  have q1 := (below_new w (.cells (bv s).toArray 31)).trans ((below_new (w.alloc (.cells (bv s).toArray 31)) (.cells (bv d).toArray 31)).mono (by simp))
  have r0 := (((row_new (w := w) (cs := (bv s).toArray) (t := 31) rfl)).keep (below_new _ (.cells (bv d).toArray 31)))
  have r1 := row_new (w := w.alloc (.cells (bv s).toArray 31)) (cs := (bv d).toArray) (t := 31) (show w.heap.size + 1 = _ by simp)
  have Z1 : Hid (w.heap.size + 1 + 1 = ((w.alloc (.cells (bv s).toArray 31)).alloc (.cells (bv d).toArray 31)).heap.size) := by simp [Hid]
  go_enter Try.func13, Try.ntmps13
  obtain ⟨w1, hw1⟩ : ∃ w1, (w.alloc (.cells (bv s).toArray 31)).alloc (.cells (bv d).toArray 31) = w1 := ⟨_, rfl⟩
  rw [hw1] at q1 r0 r1 Z1
  obtain ⟨v2, w2, H2, O2, G2, B2⟩ := run_append_slc w1 w1.heap.size 22 (.slice none 0 0) (.slice (some ⟨w.heap.size, 0, none⟩) 16 16) [] s (own_nil _ _) (.inr ⟨_, 16, by rw [hs], rd_lit r0 rfl, by omega⟩) (by simp; omega) (Nat.le_refl _)
  rw [List.nil_append] at O2
  have q2 : Below w1.heap.size w1 w2 := own_below (own_nil w1 w1.heap.size) G2 (Below.refl _ _) (Nat.le_refl _)
  obtain ⟨v3, w3, H3, O3, G3, B3⟩ := run_append_slc w2 w1.heap.size 22 v2 (.slice (some ⟨w.heap.size + 1, 0, none⟩) 16 16) s d O2 (.inr ⟨_, 16, by rw [hd], rd_lit (r1.keep q2) rfl, by omega⟩) (by omega) q2.size
  have q3 : Below w1.heap.size w1 w3 := own_below O2 G3 q2 q2.size
  obtain ⟨bs8, hb8⟩ : ∃ bs8, #[Value.int .u8 ((n : Int) / 16777216), .int .u8 ((n : Int) / 65536 % 256), .int .u8 ((n : Int) / 256 % 256), .int .u8 ((n : Int) % 256), .int .u8 0, .int .u8 0, .int .u8 0, .int .u8 nx] = bs8 := ⟨_, rfl⟩
  have e8 : bs8.toList = bv (be n 4 ++ [0, 0, 0, nx]) := by rw [← hb8, be_four n (by omega) (by omega)]; rfl
  have r4 : Row (w3.alloc (.cells bs8 5)) w3.heap.size 5 bs8 := row_new rfl
  have q4 := q3.trans ((below_new w3 (.cells bs8 5)).mono q3.size)
  obtain ⟨v4, w4, H4, O4, G4, B4⟩ := run_append_slc (w3.alloc (.cells bs8 5)) w1.heap.size 22 v3 (.slice (some ⟨w3.heap.size, 0, none⟩) 8 8) (s ++ d) (be n 4 ++ [0, 0, 0, nx]) (O3.keep (below_new _ _)) (.inr ⟨_, 8, by simp [be_length], rd_lit r4 e8, by simp [be_length]⟩) (by simp [be_length]; omega) q4.size
  have q5 : Below w1.heap.size w1 w4 := own_below (O3.keep (below_new _ _)) G4 q4 q4.size
  have e9 : s ++ d ++ (be n 4 ++ [0, 0, 0, nx]) = ph s d n nx := by simp [ph]
  rw [e9] at O4
  have h40 := ph_length s d n nx hs hd
  obtain ⟨v5, w5, H5, O5, G5, B5⟩ := run_append_slc w4 w1.heap.size 22 v4 (.slice A n c) (ph s d n nx) zs O4 ((hz.keep q1).keep q5) (by omega) q5.size
  have q6 : Below w1.heap.size w1 w5 := own_below O4 G5 q5 q5.size
  obtain ⟨A5, c5, rfl, hr5, _⟩ := O5.slc.slice
  obtain ⟨m5, hm5⟩ : ∃ m5, (ph s d n nx ++ zs).length = m5 := ⟨_, rfl⟩
  rw [hm5] at H5
  have HC := veil (refOf_any A5 m5 c5 (ph s d n nx ++ zs) w5 hm5 (by rw [← hm5, List.length_append]; omega) hr5 (byt_append HB.out bz))
  have HQ := veil (q1.trans (q6.mono q1.size))
  have HR2 := veil H2
  have HR3 := veil H3
  have HR4 := veil H4
  have HR5 := veil H5
  have HB8 := veil hb8
  clear H2 O2 G2 B2 q2 H3 O3 G3 B3 q3 q1 r0 r1 hs hd hl hz bz bs bd H4 O4 G4 B4 q4 H5 O5 G5 B5 q5 q6 hr5 h40 e8 e9 r4 hb8 hm5
  go_wp2_with (first
    | (at_builtin; refine wpList_append_run rfl (.tmp 11) (.tmp 12) rfl rfl rfl HR2.out ?_)
    | (at_builtin; refine wpList_append_run rfl (.tmp 14) (.tmp 15) rfl rfl rfl HR3.out ?_)
    | (at_builtin; rw [HB8.out]; refine wpList_append_run rfl (.tmp 20) (.tmp 36) rfl rfl rfl HR4.out ?_)
    | (at_builtin; refine wpList_append_run rfl (.tmp 38) (.tmp 39) rfl rfl rfl HR5.out ?_))
  refine (HC.out).mono ?_
  rintro e w6 ⟨rfl, rfl⟩
  clear HC HR2 HR3 HR4 HR5
  go_wp2_with fail
  go_ret
  exact ⟨rfl, HQ.out⟩

end Go.Proofs.Ytoadligcfecpfaa
