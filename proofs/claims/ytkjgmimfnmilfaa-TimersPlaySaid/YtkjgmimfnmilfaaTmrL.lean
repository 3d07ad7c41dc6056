/-
  The law's own timer and lives.
  Conditions: none.
-/
import Derived.Test.YtkjgmimfnmilfaaTmrY
namespace Go.Proofs.Ytkjgmimfnmilfaa.Tm5
open Go.RowKit Go.Proofs.Ytkjgmimfnmilfaa.Ops

theorem timer_any (k i : Int) (w : World) : Calls Try.prog 18 #[.int .u8 k, .int .u64 i] w fun e w' => e = .returned (.agg #[.int .u8 k, .int .u64 i]) ∧ Below w.heap.size w w' := by
  go_enter Try.func18, Try.ntmps18
  go_wp2_with fail
  exact bodyPost_ret (v := .agg #[.int .u8 k, .int .u64 i]) (by simp [results, Try.results18, go_sem]) rfl ⟨rfl, below_new _ _⟩
instance (a b : Tm) : Decidable (le a b) := inferInstanceAs (Decidable (lt b a = false))

theorem ok_mk (a b : Int) (h : 0 ≤ a ∧ a ≤ 255 ∧ 0 ≤ b ∧ b ≤ 18446744073709551615) : Tk.ok ⟨a, b⟩ := ⟨h.1, h.2.1, h.2.2.1, h.2.2.2⟩
theorem okm (a b c : Int) (h : 0 ≤ a ∧ a ≤ 255 ∧ 0 ≤ b ∧ b ≤ 18446744073709551615 ∧ 0 ≤ c ∧ c ≤ 18446744073709551615) : Tm.ok ⟨⟨a, b⟩, c⟩ := ⟨ok_mk a b ⟨h.1, h.2.1, h.2.2.1, h.2.2.2.1⟩, h.2.2.2.2.1, h.2.2.2.2.2⟩

theorem Sd.four {w0 w : World} {s : Nat} {L : List Tm} {T1 T2 T3 T4 : TypeId} {g1 g2 g3 g4 : Nat} {a1 b1 a2 b2 a3 b3 a4 b4 : Value} (h : Sd w0 w s L [(g4, T4, #[a4, b4]), (g3, T3, #[a3, b3]), (g2, T2, #[a2, b2]), (g1, T1, #[a1, b1])]) :
    (w.cell? ⟨g1, 0, none⟩ = some a1 ∧ w.cell? ⟨g1, 1, none⟩ = some b1) ∧ (w.cell? ⟨g2, 0, none⟩ = some a2 ∧ w.cell? ⟨g2, 1, none⟩ = some b2) ∧ (w.cell? ⟨g3, 0, none⟩ = some a3 ∧ w.cell? ⟨g3, 1, none⟩ = some b3) ∧ (w.cell? ⟨g4, 0, none⟩ = some a4 ∧ w.cell? ⟨g4, 1, none⟩ = some b4) := by
  have r1 := h.row (g := g1) (t := T1) (cs := #[a1, b1]) (by simp)
  have r2 := h.row (g := g2) (t := T2) (cs := #[a2, b2]) (by simp)
  have r3 := h.row (g := g3) (t := T3) (cs := #[a3, b3]) (by simp)
  have r4 := h.row (g := g4) (t := T4) (cs := #[a4, b4]) (by simp)
  exact ⟨⟨r1.cell 0, r1.cell 1⟩, ⟨r2.cell 0, r2.cell 1⟩, ⟨r3.cell 0, r3.cell 1⟩, ⟨r4.cell 0, r4.cell 1⟩⟩

set_option maxHeartbeats 4000000 in
theorem lives_true (w : World) : Calls Try.prog 7 #[] w fun e w' => e = .returned (.bool true) ∧ Below w.heap.size w w' := by
  go_enter Try.func7, Try.ntmps7
  go_wp2_with fail
  refine (sd_new w).mono ?_
  rintro e w1 ⟨rfl, h1⟩
  have H1 := veil h1
  clear h1
  generalize w.heap.size + 2 = s at *
  go_wp2_with fail
  refine (timer_any 1 7 _).mono ?_
  rintro e w2 ⟨rfl, h2⟩
  have H2 := veil (H1.out.keep h2)
  clear h2 H1
  go_wp2_with fail
  refine (sd_arm H2.out ⟨⟨1, 7⟩, 50⟩ (okm _ _ _ (by omega)) (.inr (by decide)) [⟨⟨1, 7⟩, 50⟩] rfl).mono ?_
  rintro e w3 ⟨rfl, h3⟩
  have H3 := veil h3
  clear h3 H2
  go_wp2_with fail
  refine (timer_any 2 1 _).mono ?_
  rintro e w4 ⟨rfl, h4⟩
  have H4 := veil (H3.out.keep h4)
  clear h4 H3
  go_wp2_with fail
  refine (sd_arm H4.out ⟨⟨2, 1⟩, 40⟩ (okm _ _ _ (by omega)) (.inr (by decide)) [⟨⟨1, 7⟩, 50⟩, ⟨⟨2, 1⟩, 40⟩] rfl).mono ?_
  rintro e w5 ⟨rfl, h5⟩
  have H5 := veil h5
  clear h5 H4
  go_wp2_with fail
  refine (timer_any 1 3 _).mono ?_
  rintro e w6 ⟨rfl, h6⟩
  have H6 := veil (H5.out.keep h6)
  clear h6 H5
  go_wp2_with fail
  refine (sd_arm H6.out ⟨⟨1, 3⟩, 50⟩ (okm _ _ _ (by omega)) (.inr (by decide)) [⟨⟨1, 7⟩, 50⟩, ⟨⟨2, 1⟩, 40⟩, ⟨⟨1, 3⟩, 50⟩] rfl).mono ?_
  rintro e w7 ⟨rfl, h7⟩
  have H7 := veil h7
  clear h7 H6
  go_wp2_with fail
  refine (sd_next H7.out ⟨⟨2, 1⟩, 40⟩ true (.inr ⟨rfl, by simp, by decide⟩)).mono ?_
  rintro e w8 ⟨rfl, h8⟩
  have H8 := veil (h8.alloc 33 #[.int .u8 2, .int .u64 1])
  clear h8 H7
  go_wp2_with fail
  generalize w8.alloc (.cells #[.int .u8 2, .int .u64 1] 33) = w8' at *
  generalize w8.heap.size = g1 at *
  refine (sd_due H8.out 39 ⟨⟨0, 0⟩, 0⟩ false _ (.inl ⟨rfl, rfl, rfl, .inr ⟨⟨⟨2, 1⟩, 40⟩, ⟨by simp, by decide⟩, by decide⟩⟩)).mono ?_
  rintro e w9 ⟨rfl, h9⟩
  have H9 := veil (h9.keep (below_new w9 (.cells #[.int .u8 0, .int .u64 0] 33)))
  clear h9 H8
  go_wp2_with fail
  generalize w9.alloc (.cells #[.int .u8 0, .int .u64 0] 33) = w9' at *
  generalize w9.heap.size = g2 at *
  refine (sd_due H9.out 45 ⟨⟨2, 1⟩, 40⟩ true [⟨⟨1, 7⟩, 50⟩, ⟨⟨1, 3⟩, 50⟩] (.inr ⟨rfl, ⟨by simp, by decide⟩, by decide, rfl⟩)).mono ?_
  rintro e w10 ⟨rfl, h10⟩
  have H10 := veil (h10.alloc 33 #[.int .u8 2, .int .u64 1])
  clear h10 H9
  go_wp2_with fail
  generalize w10.alloc (.cells #[.int .u8 2, .int .u64 1] 33) = w10' at *
  generalize w10.heap.size = g3 at *
  refine (sd_next H10.out ⟨⟨1, 3⟩, 50⟩ true (.inr ⟨rfl, by simp, by decide⟩)).mono ?_
  rintro e w11 ⟨rfl, h11⟩
  have H11 := veil (h11.alloc 33 #[.int .u8 1, .int .u64 3])
  clear h11 H10
  go_wp2_with fail
  generalize w11.alloc (.cells #[.int .u8 1, .int .u64 3] 33) = w11' at *
  generalize w11.heap.size = g4 at *
  refine (timer_any 1 7 _).mono ?_
  rintro e w12 ⟨rfl, h12⟩
  have H12 := veil (H11.out.keep h12)
  clear h12 H11
  go_wp2_with fail
  refine (sd_arm H12.out ⟨⟨1, 7⟩, 10⟩ (okm _ _ _ (by omega)) (.inr (by decide)) [⟨⟨1, 7⟩, 10⟩, ⟨⟨1, 3⟩, 50⟩] rfl).mono ?_
  rintro e w13 ⟨rfl, h13⟩
  have H13 := veil h13
  clear h13 H12
  go_wp2_with fail
  refine (sd_due H13.out 100 ⟨⟨1, 7⟩, 10⟩ true [⟨⟨1, 3⟩, 50⟩] (.inr ⟨rfl, ⟨by simp, by decide⟩, by decide, rfl⟩)).mono ?_
  rintro e w14 ⟨rfl, h14⟩
  have H14 := veil (h14.alloc 33 #[.int .u8 1, .int .u64 7])
  clear h14 H13
  go_wp2_with fail
  generalize w14.alloc (.cells #[.int .u8 1, .int .u64 7] 33) = w15 at *
  generalize w14.heap.size = g5 at *
  have D := veil H14.out.drew
  clear H14
  dsimp only [List.append]
  go_region_held3 (fun w' => (w'.cell? ⟨g1, 0, none⟩ = some (.int .u8 2) ∧ w'.cell? ⟨g1, 1, none⟩ = some (.int .u64 1)) ∧ (w'.cell? ⟨g3, 0, none⟩ = some (.int .u8 2) ∧ w'.cell? ⟨g3, 1, none⟩ = some (.int .u64 1)) ∧ (w'.cell? ⟨g4, 0, none⟩ = some (.int .u8 1) ∧ w'.cell? ⟨g4, 1, none⟩ = some (.int .u64 3)) ∧ (w'.cell? ⟨g5, 0, none⟩ = some (.int .u8 1) ∧ w'.cell? ⟨g5, 1, none⟩ = some (.int .u64 7))) (first | exact D.out.four)
    (first
      | (go_at_call 18
         refine (timer_any _ _ _).mono ?_
         rintro e w9 ⟨rfl, h9⟩
         have D := veil (D.out.keep h9)
         clear h9)
      | (go_at_call 15
         refine (sd_cancel D.out ⟨1, 3⟩ (ok_mk _ _ (by omega)) true rfl [] rfl).mono ?_
         rintro e w9 ⟨rfl, h9⟩
         have D := veil h9
         clear h9)
      | (go_at_call 16
         refine (sd_len D.out 0 rfl).mono ?_
         rintro e w9 ⟨rfl, rfl⟩))
  go_wp2_with fail
  go_ret
  exact ⟨rfl, D.out.bel⟩

end Go.Proofs.Ytkjgmimfnmilfaa.Tm5
