/-
  Over: the checksum of the pseudo header and the bytes. Good: is that 0? What was there stays. And the chapter's answers.
  Conditions: each address has 16 bytes; at most 16000000 bytes.
-/
import Derived.Test.YtoadligcfecpfaaSumOf
import Derived.Test.YtoadligcfecpfaaSumPs
namespace Go.Proofs.Ytoadligcfecpfaa
open Go.RowKit

theorem size16 : (Try.prog.info? 31).map (·.size) = some 16 := by kernel_rfl

theorem load_row {P : Program} {w : World} {g : Nat} {t ty : TypeId} {cs : Array Value} {d : TypeDesc} (h : Row w g t cs) (hu : P.underlying ty = some d) (hd : (match d with | .struct _ | .array _ _ => true | _ => false) = true) (hi : (P.info? ty).map (·.size) = some cs.size) :
    (Instr.loadAt ty (.pointer (some ⟨g, 0, none⟩))).run P w = .ok (.agg cs) w := by
  simp only [Instr.loadAt, Instr.sureAddr, Sem.run_bind, Sem.run_pure, Result.andThen]
  exact run_loadVar_row _ _ _ _ _ (0, 0) _ h hu hd hi

/-- an address, laid into a box, and taken out of it -/
theorem load_addr {w : World} {g : Nat} {t : TypeId} {s : List Int} (h : Row w g t (bv s).toArray) (hs : s.length = 16) : (Instr.loadAt 31 (.pointer (some ⟨g, 0, none⟩))).run Try.prog w = .ok (.agg (bv s).toArray) w :=
  load_row h Try.underlying31 rfl (by rw [size16]; simp [bv, hs])

/-- a header into the block that was made just now -/
theorem store_head (w : World) (l : List Int) (hl : l.length = 40) :
    (Instr.storeAt 51 (.pointer (some ⟨w.heap.size, 0, none⟩)) (.agg (bv l).toArray)).run Try.prog (w.alloc (.cells (bv (List.replicate 40 0)).toArray 51)) = .ok () (w.alloc (.cells (bv l).toArray 51)) :=
  run_storeAt_new w _ _ _ (by rw [size40]; simp [bv, hl]) (by simp [bv, hl]) (by simp [bv, Value.oneCell'])

theorem ph_byt {s d : List Int} {n nx : Int} (hs : Byt s) (hd : Byt d) (hn : 0 ≤ nx ∧ nx ≤ 255) : Byt (ph s d n nx) :=
  byt_append hs (byt_append hd (byt_append (be_byt n 4) (fun z hz => by simp at hz; rcases hz with rfl | rfl <;> omega)))

set_option maxHeartbeats 2000000 in
theorem over_any (s d : List Int) (nx : Int) (A : Option Addr) (n c : Nat) (zs : List Int) (w : World) (hs : s.length = 16) (hd : d.length = 16) (bs : Byt s) (bd : Byt d) (hnx : 0 ≤ nx ∧ nx ≤ 255) (hl : zs.length = n) (hn : n ≤ 16000000) (hz : Slc w (.slice A n c) zs) (bz : Byt zs) :
    Calls Try.prog 14 #[.agg (bv s).toArray, .agg (bv d).toArray, .int .u8 nx, .slice A n c] w fun e w' => e = .returned (.int .u16 (ck (ph s d n nx ++ zs))) ∧ Below w.heap.size w w' := by
  have HS := veil hs
  have HD := veil hd
  have HB := veil (ph_byt (n := n) bs bd hnx)
  have HL := veil hl
  have HZ := veil hz
  have BZ := veil bz
  clear hs hd bs bd hnx hl hz bz
  have L0 := veil (load_addr (((row_new (w := w) (cs := (bv s).toArray) (t := 31) rfl)).keep (below_new _ (.cells (bv d).toArray 31))) HS.out)
  have L1 := veil (load_addr (row_new (w := w.alloc (.cells (bv s).toArray 31)) (cs := (bv d).toArray) (t := 31) (show w.heap.size + 1 = _ by simp)) HD.out)
  go_enter Try.func14, Try.ntmps14
  go_wp2_with (first
    | (refine wpList_load_of rfl (.tmp 4) rfl rfl L0.out ?_)
    | (refine wpList_load_of rfl (.tmp 5) rfl rfl L1.out ?_))
  have q1 := veil ((below_new w (.cells (bv s).toArray 31)).trans ((below_new (w.alloc (.cells (bv s).toArray 31)) (.cells (bv d).toArray 31)).mono (by simp)))
  generalize (w.alloc (.cells (bv s).toArray 31)).alloc (.cells (bv d).toArray 31) = w1 at *
  clear L0 L1
  refine (pseudo_any s d nx n w1 HS.out HD.out).mono ?_
  rintro e w2 ⟨rfl, hw2⟩
  have q2 := veil (q1.out.trans (hw2.mono q1.out.size))
  clear hw2 q1
  have S0 := veil (store_head w2 (ph s d n nx) (ph_length s d n nx HS.out HD.out))
  go_wp2_with (first
    | (refine wpList_store_of rfl (.tmp 9) (.tmp 15) rfl rfl rfl S0.out ?_))
  have r3 : Row ((w2.alloc (.cells (bv (ph s d n nx)).toArray 51)).alloc (.cells #[.slice (some ⟨w2.heap.size, 0, none⟩) 40 40, .slice A n c] 22)) w2.heap.size 51 (bv (ph s d n nx)).toArray := (row_new rfl).keep (below_new _ _)
  have r4 : Row ((w2.alloc (.cells (bv (ph s d n nx)).toArray 51)).alloc (.cells #[.slice (some ⟨w2.heap.size, 0, none⟩) 40 40, .slice A n c] 22)) (w2.heap.size + 1) 22 #[.slice (some ⟨w2.heap.size, 0, none⟩) 40 40, .slice A n c] := row_new (by simp)
  have q4 : Below w.heap.size w ((w2.alloc (.cells (bv (ph s d n nx)).toArray 51)).alloc (.cells #[.slice (some ⟨w2.heap.size, 0, none⟩) 40 40, .slice A n c] 22)) :=
    (q2.out.trans ((below_new _ _).mono q2.out.size)).trans ((below_new _ _).mono (by have := q2.out.size; simp; omega))
  have h40 := ph_length s d n nx HS.out HD.out
  generalize (w2.alloc (.cells (bv (ph s d n nx)).toArray 51)).alloc (.cells #[.slice (some ⟨w2.heap.size, 0, none⟩) 40 40, .slice A n c] 22) = w4 at *
  clear S0 q2
  refine (of2 _ _ _ _ (ph s d n nx) zs w4 r4 (.inr ⟨_, 40, by rw [h40], rd_lit r3 rfl, by omega⟩) HB.out (by unfold maxLen; omega) (HZ.out.keep q4) BZ.out (by rw [HL.out]; unfold maxLen; omega)).mono ?_
  rintro e w5 ⟨rfl, hw5⟩
  have Q5 := veil (q4.trans (hw5.mono q4.size))
  clear hw5 r3 r4 q4 h40
  go_wp2_with fail
  go_ret
  exact ⟨rfl, Q5.out⟩

theorem good_any (s d : List Int) (nx : Int) (A : Option Addr) (n c : Nat) (zs : List Int) (w : World) (hs : s.length = 16) (hd : d.length = 16) (bs : Byt s) (bd : Byt d) (hnx : 0 ≤ nx ∧ nx ≤ 255) (hl : zs.length = n) (hn : n ≤ 16000000) (hz : Slc w (.slice A n c) zs) (bz : Byt zs) :
    Calls Try.prog 15 #[.agg (bv s).toArray, .agg (bv d).toArray, .int .u8 nx, .slice A n c] w fun e w' => e = .returned (.bool (ck (ph s d n nx ++ zs) == 0)) ∧ Below w.heap.size w w' := by
  have q1 := (below_new w (.cells (bv s).toArray 31)).trans ((below_new (w.alloc (.cells (bv s).toArray 31)) (.cells (bv d).toArray 31)).mono (by simp))
  have HC := veil (over_any s d nx A n c zs _ hs hd bs bd hnx hl hn (hz.keep q1) bz)
  have Q1 := veil q1
  have L0 := veil (load_addr (((row_new (w := w) (cs := (bv s).toArray) (t := 31) rfl)).keep (below_new _ (.cells (bv d).toArray 31))) hs)
  have L1 := veil (load_addr (row_new (w := w.alloc (.cells (bv s).toArray 31)) (cs := (bv d).toArray) (t := 31) (show w.heap.size + 1 = _ by simp)) hd)
  clear hs hd bs bd hnx hl hz bz q1
  go_enter Try.func15, Try.ntmps15
  go_wp2_with (first
    | (refine wpList_load_of rfl (.tmp 4) rfl rfl L0.out ?_)
    | (refine wpList_load_of rfl (.tmp 5) rfl rfl L1.out ?_))
  refine (HC.out).mono ?_
  rintro e w2 ⟨rfl, hw2⟩
  have Q2 := veil (Q1.out.trans (hw2.mono Q1.out.size))
  clear HC L0 L1 hw2
  go_wp2_with fail
  go_ret
  exact ⟨rfl, Q2.out⟩

/-- Of, of one list that is written out -/
theorem of_lit (w : World) (g k : Nat) (zs : List Int) (v : Int) (hk : zs.length = k) (hg : g = w.heap.size) (hb : Byt zs) (hl : zs.length ≤ 1000) (hv : ck zs = v) :
    Calls Try.prog 10 #[.slice (some ⟨g + 1, 0, none⟩) 1 1] ((w.alloc (.cells (bv zs).toArray 5)).alloc (.cells #[.slice (some ⟨g, 0, none⟩) k k] 22)) fun e w' => e = .returned (.int .u16 v) ∧ Below w.heap.size w w' := by
  subst hv hk hg
  have r0 : Row ((w.alloc (.cells (bv zs).toArray 5)).alloc (.cells #[.slice (some ⟨w.heap.size, 0, none⟩) zs.length zs.length] 22)) w.heap.size 5 (bv zs).toArray := (row_new rfl).keep (below_new _ _)
  have q : Below w.heap.size w ((w.alloc (.cells (bv zs).toArray 5)).alloc (.cells #[.slice (some ⟨w.heap.size, 0, none⟩) zs.length zs.length] 22)) := (below_new _ _).trans ((below_new _ _).mono (by simp))
  refine (of1 _ 22 _ zs _ (row_new (by simp)) (.inr ⟨_, _, rfl, rd_lit r0 rfl, Nat.le_refl _⟩) hb (by unfold maxLen; omega)).mono ?_
  rintro e w' ⟨rfl, hw⟩
  exact ⟨rfl, q.trans (hw.mono q.size)⟩

set_option maxHeartbeats 2000000 in
theorem lives_true (w : World) : Calls Try.prog 8 #[] w fun e w' => e = .returned (.bool true) ∧ Below w.heap.size w w' := by
  go_enter Try.func8, Try.ntmps8
  go_wp2_with fail
  refine (of0 _).mono ?_
  rintro e w1 ⟨rfl, b1⟩
  go_wp2_with fail
  refine (of_lit w1 _ 2 [0, 1] 65534 rfl rfl (by unfold Byt; decide) (by decide) (by decide)).mono ?_
  rintro e w2 ⟨rfl, q2⟩
  have b2 := b1.trans (q2.mono b1.size)
  clear b1 q2
  go_wp2_with fail
  refine (of_lit w2 _ 8 [0, 1, 242, 3, 244, 245, 246, 247] 8717 rfl rfl (by unfold Byt; decide) (by decide) (by decide)).mono ?_
  rintro e w3 ⟨rfl, q3⟩
  have b3 := b2.trans (q3.mono b2.size)
  clear b2 q3
  go_wp2_with fail
  have e4 : ck ([0] ++ [1]) = 65534 := by decide
  have q4 : Below w3.heap.size w3 (((w3.alloc (.cells #[.int .u8 0] 5)).alloc (.cells #[.int .u8 1] 5)).alloc (.cells #[.slice (some ⟨w3.heap.size, 0, none⟩) 1 1, .slice (some ⟨w3.heap.size + 1, 0, none⟩) 1 1] 22)) :=
    ((below_new _ _).trans ((below_new _ _).mono (by simp))).trans ((below_new _ _).mono (by simp; omega))
  have r1 : Row (((w3.alloc (.cells #[.int .u8 0] 5)).alloc (.cells #[.int .u8 1] 5)).alloc (.cells #[.slice (some ⟨w3.heap.size, 0, none⟩) 1 1, .slice (some ⟨w3.heap.size + 1, 0, none⟩) 1 1] 22)) w3.heap.size 5 #[.int .u8 0] := ((row_new rfl).keep (below_new _ _)).keep (below_new _ _)
  have r2 : Row (((w3.alloc (.cells #[.int .u8 0] 5)).alloc (.cells #[.int .u8 1] 5)).alloc (.cells #[.slice (some ⟨w3.heap.size, 0, none⟩) 1 1, .slice (some ⟨w3.heap.size + 1, 0, none⟩) 1 1] 22)) (w3.heap.size + 1) 5 #[.int .u8 1] := (row_new (by simp)).keep (below_new _ _)
  have h4 := of2 (w3.heap.size + 1 + 1) 22 _ _ [0] [1] _ (row_new (w := ((w3.alloc (.cells #[.int .u8 0] 5)).alloc (.cells #[.int .u8 1] 5))) (by simp)) (.inr ⟨_, 1, rfl, rd_lit r1 rfl, by simp⟩) (by unfold Byt; decide) (by unfold maxLen; simp) (.inr ⟨_, 1, rfl, rd_lit r2 rfl, by simp⟩) (by unfold Byt; decide) (by unfold maxLen; simp)
  rw [e4] at h4
  refine h4.mono ?_
  rintro e w4 ⟨rfl, hw4⟩
  have b4 := b3.trans ((q4.trans (hw4.mono q4.size)).mono b3.size)
  clear e4 q4 r1 r2 h4 hw4 b3
  go_wp2_with fail
  refine (of_lit w4 _ 2 [255, 255] 0 rfl rfl (by unfold Byt; decide) (by decide) (by decide)).mono ?_
  rintro e w5 ⟨rfl, q5⟩
  have b5 := b4.trans (q5.mono b4.size)
  clear b4 q5
  go_wp2_with fail
  go_ret
  exact ⟨rfl, b5⟩

end Go.Proofs.Ytoadligcfecpfaa
