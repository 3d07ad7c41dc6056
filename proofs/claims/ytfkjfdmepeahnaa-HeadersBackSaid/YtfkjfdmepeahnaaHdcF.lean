/-
  A part gone through, by the code.
  Conditions: at most 16000000 bytes; places stay below 2 to the 64th.
-/
import Derived.Test.YtfkjfdmepeahnaaHdcE
import Derived.Laws.BitsAllLaws
namespace Go.Proofs.Ytfkjfdmepeahnaa.Hd
set_option maxRecDepth 100000
open Go.RowKit Ops

theorem u16_one {n : Int} (h : 0 ≤ n ∧ n < 65536) : bits .and .u16 n 1 = n % 2 := by
  obtain ⟨a, rfl⟩ := Int.eq_ofNat_of_zero_le h.1
  rw [show (1 : Int) = ((1 : Nat) : Int) from rfl, u16_and_nat a 1 (by omega) (by omega), Nat.and_one_is_mod]
  omega
theorem num_le {zs : List Int} (hz : Byt zs) (k : Nat) (hk : zs.length ≤ k) : 0 ≤ num zs ∧ num zs < 256 ^ k := by
  have h := num_bound zs hz zs.length (Nat.le_refl _)
  rw [List.take_length] at h
  refine ⟨h.1, Int.lt_of_lt_of_le h.2 ?_⟩
  have : (256 : Nat) ^ zs.length ≤ 256 ^ k := Nat.pow_le_pow_right (by omega) hk
  have e : ((256 ^ zs.length : Nat) : Int) = (256 : Int) ^ zs.length := by simp
  have e2 : ((256 ^ k : Nat) : Int) = (256 : Int) ^ k := by simp
  omega

section
variable {P : Nat → Prop} {w0 w : World} {g c b o r : Nat} {s : St} {zs : List Int} {T : Tl}

set_option maxHeartbeats 4000000 in
theorem part_to (h : LayF P w0 w (L3 g c b s (ct b o r) zs)) (hz : Byt zs) (hr : o + r ≤ zs.length) (U : Un T s (lef zs o r)) (hn : s.next = 44) :
    Calls Try.prog 54 #[.pointer (some ⟨g, 0, none⟩)] w (StepTo P w0 g c b zs r T) := by
  have ht := U.eq
  rw [walk, if_neg (by omega), if_neg (by omega), if_pos hn, lef_len hr] at ht
  have hpb := U.pb
  rw [lef_len hr] at hpb
  have c0 : w.cell? ⟨g, 0, none⟩ = some (.pointer (some ⟨c, 0, none⟩)) := h.look mem0 rfl
  have KL := veil (h.left mem1)
  by_cases h8 : r < 8
  · rw [if_pos h8] at ht
    have VY := veil h
    have VT := veil ht
    have i8 : (r : Int) < 8 := by omega
    clear h hz hr U hn ht
    go_enter Try.func54, Try.ntmps54
    go_wp2_with fail
    refine (KL.out).mono ?_
    rintro e w1 ⟨rfl, rfl⟩
    clear KL
    go_wp2_with fail
    go_ret
    have ht := VT.out
    subst ht
    exact ⟨5, s, _, rfl, VY.out, .inr (.inr ⟨by omega, rfl, fun q => absurd q (by omega)⟩)⟩
  · rw [if_neg h8] at ht
    have hbc : b ≠ c := h.ne (i := 1) (j := 2) rfl rfl (by omega)
    have i8 : ¬ (r : Int) < 8 := by omega
    have hx := ((hz.drop o).take r).at_ 0
    have n1 := lef_one hr (by omega : 1 ≤ r)
    have K1 := h.num (i := 1) rfl mem2 hbc hz hr 1 (by omega) (by omega) (by omega) (o + 1) (by rw [if_neg (by omega)])
    simp only [List.set_cons_zero, List.set_cons_succ, n1] at K1
    replace K1 := veil K1
    have e3 : (zs.drop (o + 2)).take 2 = ((lef zs o r).drop 2).take 2 := by
      rw [lef, List.drop_take, List.drop_drop, List.take_take, Nat.min_eq_left (by omega)]
    have e4 : (zs.drop (o + 4)).take 4 = ((lef zs o r).drop 4).take 4 := by
      rw [lef, List.drop_take, List.drop_drop, List.take_take, Nat.min_eq_left (by omega)]
    have b3 := num_le (((hz.drop o).take r).drop 2 |>.take 2) 2 (by simp; omega)
    have b4 := num_le (((hz.drop o).take r).drop 4 |>.take 4) 4 (by simp; omega)
    have E3 := veil e3
    have E4 := veil e4
    have l8 : ∀ o8, (if r - 4 = 4 then o + 4 else o + 8) = o8 → lef zs o8 (r - 8) = (lef zs o r).drop 8 ∧ o8 + (r - 8) ≤ zs.length := fun o8 q => by
      subst q
      split
      · have e : r = 8 := by omega
        subst e
        refine ⟨?_, by omega⟩
        rw [Nat.sub_self, lef_none, List.drop_of_length_le (by rw [lef_len hr]; omega)]
      · refine ⟨?_, by omega⟩
        rw [lef, lef, List.drop_take, List.drop_drop]
    obtain ⟨o8, ho8⟩ : ∃ o8, (if r - 4 = 4 then o + 4 else o + 8) = o8 := ⟨_, rfl⟩
    have L8 := veil (l8 o8 ho8)
    have H8 := veil ho8
    have VB := veil hbc
    have VZ := veil hz
    have VR := veil hr
    have VU := veil U
    have VP := veil hpb
    have VX := veil hx
    have hfr : fragOf (lef zs o r) = { is := true, id := num (((lef zs o r).drop 4).take 4), off := num (((lef zs o r).drop 2).take 2) / 8, more := decide (num (((lef zs o r).drop 2).take 2) % 2 = 1) } := rfl
    rw [hfr] at ht
    have VT := veil ht
    clear h hz hr U hn ht hbc n1 e3 e4 l8 ho8 hpb hx hfr
    rw [← lef] at b3 b4
    generalize hX : (lef zs o r).getD 0 0 = x at *
    generalize hP3 : num (((lef zs o r).drop 2).take 2) = pl at *
    generalize hP4 : num (((lef zs o r).drop 4).take 4) = id at *
    have hwx : IntKind.u8.wrap x = x := by have := VX.out; rw [IntKind.wrap_u8]; omega
    have hwp : IntKind.u16.wrap pl = pl := by rw [IntKind.wrap_u16]; omega
    have hwi : IntKind.u32.wrap id = id := by rw [IntKind.wrap_u32]; omega
    have hand : bits .and .u16 pl 1 = pl % 2 := u16_one (by omega)
    obtain ⟨off, hoff⟩ : ∃ off, pl / 8 = off := ⟨_, rfl⟩
    obtain ⟨mo, hmo⟩ : ∃ mo, (pl % 2 != 0) = mo := ⟨_, rfl⟩
    have hmo2 : decide (pl % 2 = 1) = mo := by
      rw [← hmo]
      rcases (by omega : pl % 2 = 0 ∨ pl % 2 = 1) with q | q <;> simp [q]
    rw [hoff, hmo2] at VT
    clear hmo2
    go_enter Try.func54, Try.ntmps54
    go_wp2_with fail
    refine (KL.out).mono ?_
    rintro e w1 ⟨rfl, rfl⟩
    clear KL
    go_wp2_with fail
    refine (K1.out).mono ?_
    rintro e w1 ⟨rfl, Y1, s1⟩
    have d0 : w1.cell? ⟨g, 0, none⟩ = some (.pointer (some ⟨c, 0, none⟩)) := Y1.look mem0 rfl
    have K2 := Y1.num (i := 1) rfl mem2 VB.out VZ.out (by have := VR.out; omega) 1 (by omega) (by omega) (by omega) (o + 2) (by rw [if_neg (by omega)])
    simp only [List.set_cons_zero, List.set_cons_succ] at K2
    replace K2 := veil K2
    clear Y1 K1 c0 s1
    generalize num ((zs.drop (o + 1)).take 1) = x1 at *
    go_wp2_with fail
    refine (K2.out).mono ?_
    rintro e w2 ⟨rfl, Y2, s2⟩
    have d1 : w2.cell? ⟨g, 0, none⟩ = some (.pointer (some ⟨c, 0, none⟩)) := Y2.look mem0 rfl
    have K3 := Y2.num (i := 1) rfl mem2 VB.out VZ.out (by have := VR.out; omega) 2 (by omega) (by omega) (by omega) (o + 4) (by rw [if_neg (by omega)])
    simp only [List.set_cons_zero, List.set_cons_succ, E3.out, hP3] at K3
    replace K3 := veil K3
    clear Y2 K2 d0 s2
    go_wp2_with fail
    refine (K3.out).mono ?_
    rintro e w3 ⟨rfl, Y3, s3⟩
    have d2 : w3.cell? ⟨g, 0, none⟩ = some (.pointer (some ⟨c, 0, none⟩)) := Y3.look mem0 rfl
    have K4 := Y3.num (i := 1) rfl mem2 VB.out VZ.out (by have := VR.out; omega) 4 (by omega) (by omega) (by omega) o8 (by rw [← H8.out]; split <;> split <;> omega)
    simp only [List.set_cons_zero, List.set_cons_succ, E4.out, hP4, show r - 1 - 1 - 2 - 4 = r - 8 by omega] at K4
    replace K4 := veil K4
    clear Y3 K3 d1 s3
    go_wp2_with fail
    refine (K4.out).mono ?_
    rintro e w4 ⟨rfl, Y4, s4⟩
    have VY4 := veil Y4
    have d3 : w4.cell? ⟨g, 0, none⟩ = some (.pointer (some ⟨c, 0, none⟩)) := Y4.look mem0 rfl
    have Y5 := Y4.new [.bool true, .int .u32 id, .int .u16 off, .bool mo] 27 (g := w4.heap.size) rfl
    have VY5 := veil Y5
    have T5 := store_part (P := Try.prog) (o := 8) (ty := 27) (vs := [.bool true, .int .u32 id, .int .u16 off, .bool mo]) (Y5.at mem1) (by simp [wc]) (by show _ = some 4; kernel_rfl) (by simp [Value.oneCell'])
    have Y6 := Y5.put 1 rfl (wc c { s with frag := { is := true, id := id, off := off, more := mo } })
    have e6 : (wc c s).take 8 ++ [Value.bool true, .int .u32 id, .int .u16 off, .bool mo] ++ (wc c s).drop (8 + [Value.bool true, .int .u32 id, .int .u16 off, .bool mo].length) = wc c { s with frag := { is := true, id := id, off := off, more := mo } } := rfl
    rw [e6] at T5
    obtain ⟨w6, hw6⟩ : ∃ w6, (w4.alloc (.cells [Value.bool true, .int .u32 id, .int .u16 off, .bool mo].toArray 27)).setRow g (wc c { s with frag := { is := true, id := id, off := off, more := mo } }).toArray = w6 := ⟨_, rfl⟩
    rw [hw6] at T5 Y6
    replace T5 := veil T5
    replace Y6 : LayF P w0 w6 ((w4.heap.size, 27, [.bool true, .int .u32 id, .int .u16 off, .bool mo]) :: L3 g c b { s with frag := { is := true, id := id, off := off, more := mo } } (ct b o8 (r - 8)) zs) := Y6
    have c2 : w6.cell? ⟨g, 2, none⟩ = some (.int .u8 s.next) := Y6.look mem1 rfl
    have f2 := Y6.free mem1 2
    have Y7 := Y6.cells (i := 1) [(2, .int .u8 x)] rfl
    have VY6 := veil (show LayF P w0 (w6.setCell ⟨g, 2, none⟩ (.int .u8 x)) ((w4.heap.size, 27, [.bool true, .int .u32 id, .int .u16 off, .bool mo]) :: L3 g c b { s with frag := { is := true, id := id, off := off, more := mo }, next := x } (ct b o8 (r - 8)) zs) from Y7)
    clear e6 hw6 Y7
    clear Y4 Y5 Y6 K4 d2 s4 b3 b4 hX hP3 hP4
    by_cases h0 : off = 0
    · subst h0
      cases mo with
      | false =>
        have ht := VT.out
        rw [if_pos ⟨rfl, rfl⟩] at ht
        have K5 := veil (goOn_any (c := c) VY5.out (i := 1) rfl x 8 (by omega) VP.out.1 (by have := VP.out.2; omega))
        replace VT := veil ht
        clear ht
        go_wp2_with fail
        refine (K5.out).mono ?_
        rintro e w5 ⟨rfl, Y7, _⟩
        have VY7 := veil (Y7.sub (List.sublist_cons_self _ _))
        clear K5 Y7
        go_wp2_with fail
        go_ret
        refine ⟨0, _, _, rfl, VY7.out, .inl ⟨rfl, o8, r - 8, rfl, L8.out.2, by omega, ?_⟩⟩
        refine ⟨?_, VU.out.rest, VU.out.frag, VU.out.going, VX.out, ?_, VP.out.1, by have := VP.out.2; show s.p < _; omega⟩
        · rw [L8.out.1]
          exact VT.out
        · rw [lef_len L8.out.2]
          have := VP.out
          exact ⟨by show 0 ≤ s.p + _; omega, by show s.p + (8 : Int) + _ < _; omega⟩
      | true =>
        have ht := VT.out
        rw [if_neg (fun z => Bool.noConfusion z.2)] at ht
        have K5 := veil (other_any (c := c) VY6.out (i := 1) (j := 2) rfl rfl (by omega))
        replace VT := veil ht
        clear ht
        go_wp2_with (refine wpList_store_of rfl _ _ rfl rfl rfl T5.out ?_)
        refine (K5.out).mono ?_
        rintro e w5 ⟨rfl, Y7, _⟩
        have VY7 := veil (Y7.sub (List.sublist_cons_self _ _))
        clear K5 Y7
        go_wp2_with fail
        go_ret
        have ht := VT.out
        subst ht
        exact ⟨0, _, _, rfl, VY7.out, .inr (.inl ⟨rfl, ⟨rfl, rfl, rfl, rfl, rfl, .inr ⟨o8, r - 8, rfl, L8.out.1.symm, L8.out.2⟩⟩⟩)⟩
    · have ht := VT.out
      rw [if_neg (fun z => h0 z.1)] at ht
      have f0 : (off == 0) = false := by simpa using h0
      have K5 := veil (other_any (c := c) VY6.out (i := 1) (j := 2) rfl rfl (by omega))
      replace VT := veil ht
      clear ht
      go_wp2_with (refine wpList_store_of rfl _ _ rfl rfl rfl T5.out ?_)
      refine (K5.out).mono ?_
      rintro e w5 ⟨rfl, Y7, _⟩
      have VY7 := veil (Y7.sub (List.sublist_cons_self _ _))
      clear K5 Y7
      go_wp2_with fail
      go_ret
      have ht := VT.out
      subst ht
      exact ⟨0, _, _, rfl, VY7.out, .inr (.inl ⟨rfl, ⟨rfl, rfl, rfl, rfl, rfl, .inr ⟨o8, r - 8, rfl, L8.out.1.symm, L8.out.2⟩⟩⟩)⟩
end

end Go.Proofs.Ytfkjfdmepeahnaa.Hd
