/-
  The contract of lives: the chapter's examples answer as the chapter says; nothing that was there has changed.
  Conditions: none.
-/
import Derived.Test.YtddmjenhpbbocaaOctG
import Derived.Test.YtddmjenhpbbocaaOctE
namespace Go.Proofs.Ytddmjenhpbbocaa
open Go.RowKit

theorem rd_lit {w : World} {b : Nat} {t : TypeId} {cs : Array Value} {zs : List Int} (h : Row w b t cs) (hz : cs.toList = bv zs) : Rd w (some ⟨b, 0, none⟩) zs := by
  refine rd_row (l := cs.toList) (by simpa using h) (fun j hj => ?_)
  rw [Nat.zero_add, hz]
  exact bv_get zs j hj

section
variable {w : World} {g d : Nat}
theorem ex_num (h : Cut w g d 0 4 [1, 2, 3, 4]) : Calls Try.prog 23 #[.pointer (some ⟨g, 0, none⟩), .int .i64 2] w (After (Cut · g d 2 2 [3, 4]) g w (.int .u64 258)) := h.num_ 2 (by omega) (by omega) (by simp)
theorem ex_left (h : Cut w g d 2 2 [3, 4]) : Calls Try.prog 14 #[.pointer (some ⟨g, 0, none⟩)] w fun e w' => e = .returned (.int .i64 2) ∧ w = w' := h.left_
theorem ex_bytes (h : Cut w g d 2 2 [3, 4]) : Calls Try.prog 24 #[.pointer (some ⟨g, 0, none⟩), .int .i64 1] w (After (Cut · g d 3 1 [4]) g w (.slice (some ⟨d, 2, none⟩) 1 1)) := h.bytes_ 1 (by simp)
theorem ex_over (h : Cut w g d 3 1 [4]) : Calls Try.prog 23 #[.pointer (some ⟨g, 0, none⟩), .int .i64 2] w (After (Spoilt · g) g w (.int .u64 0)) := h.num_over 2 (.inr (.inr (by simp)))
theorem ex_put (A : Option Addr) (c : Nat) (w : World) (hr : Rd w A [9]) : Calls Try.prog 21 #[.slice A 1 c, .int .u64 258, .int .i64 3] w fun e w' => e = .returned (.slice (some ⟨w.heap.size, 0, none⟩) 4 4) ∧ w.alloc (.cells (bv [9, 0, 1, 2]).toArray 5) = w' :=
  put_yes A 1 c [9] 258 3 w rfl (by omega) hr (by omega) (by omega)
theorem ex_put0 (w : World) : Calls Try.prog 21 #[.slice none 0 0, .int .u64 258, .int .i64 1] w fun e w' => e = .returned (.slice (some ⟨w.heap.size, 0, none⟩) 1 1) ∧ w.alloc (.cells (bv [2]).toArray 5) = w' :=
  put_yes none 0 0 [] 258 1 w rfl (by omega) (by simp [Rd]) (by omega) (by omega)
end

set_option maxHeartbeats 1000000 in
theorem lives_true (w : World) : Calls Try.prog 9 #[] w fun e w' => e = .returned (.bool true) ∧ Below w.heap.size w w' := by
  go_enter Try.func9, Try.ntmps9
  go_wp2_with fail
  refine (of_new _ 4 4 [1, 2, 3, 4] _ rfl (by omega) (by simp [Byt]) (rd_lit (heap_alloc_new w _) rfl)).mono ?_
  rintro e w1 ⟨rfl, hc, hb, hs, -⟩
  have hb : Below w.heap.size w w1 := ((Below.refl _ _).alloc (Nat.le_refl _) _).trans (hb.mono (by simp))
  have hs : w.heap.size + 2 < w1.heap.size := by rw [hs]; simp
  simp only [World.size_alloc] at hc
  go_wp2_with fail
  have hg : w.heap.size ≤ w.heap.size + 1 + 1 := by omega
  generalize w.heap.size + 1 + 1 = g at hc hg ⊢
  generalize w.heap.size + 1 = d at hc ⊢
  ((with_reducible refine (ex_num hc).mono ?_))
  rintro e w2 ⟨rfl, hg2, hc2⟩
  have hb2 := below_gb hb hg2 (by omega) hg
  have hs2 : w.heap.size < w2.heap.size := by have := hg2.size; omega
  clear hc hg2 hb hs
  go_wp2_with fail
  with_reducible refine (ex_left hc2).mono ?_
  rintro e w' ⟨rfl, rfl⟩
  go_wp2_with fail
  with_reducible refine (ex_bytes hc2).mono ?_
  rintro e w3 ⟨rfl, hg3, hc3⟩
  have hr3 : Rd w3 (some ⟨d, 2, none⟩) [3] := (hc2.rd.take 1).gb hg3 (fun a ha => by injection ha with ha; subst ha; intro e; injection e with e; exact hc2.ne e)
  have hb3 := below_gb hb2 hg3 (by omega) hg
  have hs3 : w.heap.size < w3.heap.size := by have := hg3.size; omega
  clear hc2 hg3 hb2 hs2
  go_wp2_with fail
  refine (sameBytes_eq _ _ 1 1 1 [3] _ rfl (by unfold maxLen; omega) (hr3.keep (below_new _ _)) (rd_lit (heap_alloc_new w3 _) rfl)).mono ?_
  rintro e w4 ⟨rfl, hw4⟩
  have hq := below_still (below_new w3 _) hw4
  have hc4 := hc3.keep hq
  have hb4 := hb3.trans (hq.mono (by omega))
  have hs4 : w.heap.size < w4.heap.size := by have := hq.size; omega
  clear hq hc3 hr3 hw4 hb3 hs3
  go_wp2_with fail
  refine (hc4.bad_).mono ?_
  rintro e w' ⟨rfl, rfl⟩
  go_wp2_with fail
  with_reducible refine (ex_over hc4).mono ?_
  rintro e w5 ⟨rfl, hg5, hc5⟩
  have hb5 := below_gb hb4 hg5 (by omega) hg
  have hs5 : w.heap.size < w5.heap.size := by have := hg5.size; omega
  clear hc4 hg5 hb4 hs4
  go_wp2_with fail
  refine (hc5.bad_).mono ?_
  rintro e w' ⟨rfl, rfl⟩
  go_wp2_with fail
  refine (hc5.left_).mono ?_
  rintro e w' ⟨rfl, rfl⟩
  go_wp2_with fail
  refine (hc5.rest_).mono ?_
  rintro e w' ⟨rfl, rfl⟩
  clear hc5
  go_wp2_with fail
  have hr5 : Rd (w5.alloc (.cells #[.int .u8 9] 5)) (some ⟨w5.heap.size, 0, none⟩) [9] := rd_lit (heap_alloc_new w5 _) rfl
  have hb6 := hb5.alloc (by omega) (.cells #[.int .u8 9] 5)
  have hs6 : w.heap.size < (w5.alloc (.cells #[.int .u8 9] 5)).heap.size := by simp; omega
  clear hb5 hs5
  generalize w5.alloc (.cells #[.int .u8 9] 5) = w6 at hr5 hb6 hs6 ⊢
  with_reducible refine (ex_put _ _ _ hr5).mono ?_
  rintro e w7 ⟨rfl, hw7⟩
  have hr7 : Rd w7 (some ⟨w6.heap.size, 0, none⟩) [9, 0, 1, 2] := by subst hw7; exact rd_lit (heap_alloc_new w6 _) (by simp)
  have hb7 : Below w.heap.size w w7 := by subst hw7; exact hb6.alloc (by omega) _
  have hs7 : w.heap.size < w7.heap.size := by subst hw7; simp; omega
  clear hw7 hb6 hs6 hr5
  go_wp2_with fail
  refine (sameBytes_eq _ _ 4 4 4 [9, 0, 1, 2] _ rfl (by unfold maxLen; omega) (hr7.keep (below_new _ _)) (rd_lit (heap_alloc_new w7 _) rfl)).mono ?_
  rintro e w8 ⟨rfl, hw8⟩
  have hq := below_still (below_new w7 _) hw8
  have hb8 := hb7.trans (hq.mono (by omega))
  have hs8 : w.heap.size < w8.heap.size := by have := hq.size; omega
  clear hq hw8 hr7 hb7 hs7
  go_wp2_with fail
  with_reducible refine (ex_put0 _).mono ?_
  rintro e w9 ⟨rfl, hw9⟩
  have hr9 : Rd w9 (some ⟨w8.heap.size, 0, none⟩) [2] := by subst hw9; exact rd_lit (heap_alloc_new w8 _) (by simp)
  have hb9 : Below w.heap.size w w9 := by subst hw9; exact hb8.alloc (by omega) _
  have hs9 : w.heap.size < w9.heap.size := by subst hw9; simp; omega
  clear hw9 hb8 hs8
  go_wp2_with fail
  refine (sameBytes_eq _ _ 1 1 1 [2] _ rfl (by unfold maxLen; omega) (hr9.keep (below_new _ _)) (rd_lit (heap_alloc_new w9 _) rfl)).mono ?_
  rintro e w10 ⟨rfl, hw10⟩
  have hq := below_still (below_new w9 _) hw10
  have hb10 := hb9.trans (hq.mono (by omega))
  clear hq hw10 hr9 hb9 hs9
  go_wp2_with fail
  go_ret
  exact ⟨rfl, hb10⟩

end Go.Proofs.Ytddmjenhpbbocaa
