/-
  Single headers gone through, by the code: options, a route, nothing, what the packet is about.
  Conditions: at most 16000000 bytes; places stay below 2 to the 64th.
-/
import Derived.Test.YtfkjfdmepeahnaaHdcD
namespace Go.Proofs.Ytfkjfdmepeahnaa.Hd
set_option maxRecDepth 100000
open Go.RowKit Ops

/-- a walk that isn't over: rs is what is left, T what the chain tells in the end -/
structure Un (T : Tl) (s : St) (rs : List Int) : Prop where
  eq : walk s.next rs s.p s.told (s.first && decide (s.p = 40)) s.mc s.al = T
  rest : s.rest = nilV
  frag : s.frag = {}
  going : s.ended = false
  nb : 0 ≤ s.next ∧ s.next ≤ 255
  pb : 0 ≤ s.p ∧ s.p + rs.length < 18446744073709551616
  tb : 0 ≤ s.told ∧ s.told < 18446744073709551616
/-- one that is -/
structure Done (T : Tl) (zs : List Int) (b : Nat) (s : St) : Prop where
  e : T.e = 0
  over : s.ended = true
  last : s.next = T.last
  al : s.al = T.alert
  frag : s.frag = T.frag
  rest : (s.rest = nilV ∧ T.rest = []) ∨ ∃ o r, s.rest = .slice (some ⟨b, o, none⟩) r r ∧ T.rest = lef zs o r ∧ o + r ≤ zs.length
/-- what going through a header comes to -/
def Comes (T : Tl) (zs : List Int) (b r : Nat) (n : Int) (s : St) (cu : List Value) : Prop :=
  (n = 0 ∧ ∃ o' r', cu = ct b o' r' ∧ o' + r' ≤ zs.length ∧ r' < r ∧ Un T s (lef zs o' r')) ∨ (n = 0 ∧ Done T zs b s) ∨ (n ≠ 0 ∧ T.e = n ∧ (n = 7 → s.al = T.alert ∧ s.code = T.code ∧ s.place = T.place))
def StepTo (P : Nat → Prop) (w0 : World) (g c b : Nat) (zs : List Int) (r : Nat) (T : Tl) (e : Ending) (w' : World) : Prop :=
  ∃ n s' cu, e = .returned (.int .i64 n) ∧ LayF P w0 w' (L3 g c b s' cu zs) ∧ Comes T zs b r n s' cu

section
variable {P : Nat → Prop} {w0 w : World} {g c b o r : Nat} {s : St} {zs : List Int} {T : Tl}

theorem nothing_to (h : LayF P w0 w (L3 g c b s (ct b o r) zs)) (U : Un T s (lef zs o r)) (hn : s.next = 59) :
    Calls Try.prog 55 #[.pointer (some ⟨g, 0, none⟩)] w (StepTo P w0 g c b zs r T) :=
  (nothing_any h (i := 0) rfl).mono fun e w' ⟨he, hy, _⟩ => by
    have ht := U.eq
    rw [walk, if_neg (by omega), if_neg (by omega), if_neg (by omega), if_pos hn] at ht
    subst ht
    exact ⟨0, _, _, he, hy, .inr (.inl ⟨rfl, ⟨rfl, rfl, hn, rfl, U.frag, .inl ⟨U.rest, rfl⟩⟩⟩)⟩
theorem other_to (h : LayF P w0 w (L3 g c b s (ct b o r) zs)) (hr : o + r ≤ zs.length) (U : Un T s (lef zs o r)) (h0 : ¬ s.next = 0) (h60 : ¬ s.next = 60) (h43 : ¬ s.next = 43) (h44 : ¬ s.next = 44) (h59 : ¬ s.next = 59) :
    Calls Try.prog 45 #[.pointer (some ⟨g, 0, none⟩)] w (StepTo P w0 g c b zs r T) :=
  (other_any h (i := 0) (j := 1) rfl rfl (by omega)).mono fun e w' ⟨he, hy, _⟩ => by
    have ht := U.eq
    rw [walk, if_neg (by omega), if_neg (by omega), if_neg (by omega), if_neg (by omega)] at ht
    subst ht
    exact ⟨0, _, _, he, hy, .inr (.inl ⟨rfl, ⟨rfl, rfl, rfl, rfl, U.frag, .inr ⟨o, r, rfl, rfl, hr⟩⟩⟩)⟩

theorem opts_e (h : List Int) (p : Int) (hop mc : Bool) (i : Nat) (al : Bool) : (opts h p hop mc i al).e = 0 ∨ (opts h p hop mc i al).e = 4 ∨ (opts h p hop mc i al).e = 7 ∨ (opts h p hop mc i al).e = 8 := by
  fun_induction opts h p hop mc i al <;> simp_all [errT, faulT]

set_option maxHeartbeats 2000000 in
theorem options_to (h : LayF P w0 w (L3 g c b s (ct b o r) zs)) (hz : Byt zs) (hr : o + r ≤ zs.length) (hb : zs.length ≤ 16000000) (U : Un T s (lef zs o r)) (hn : s.next = 0 ∧ s.first = true ∧ s.p = 40 ∨ s.next = 60) :
    Calls Try.prog 56 #[.pointer (some ⟨g, 0, none⟩)] w (StepTo P w0 g c b zs r T) := by
  have ht := U.eq
  have hfn : ¬ (s.next = 0 ∧ (s.first && decide (s.p = 40)) = false) := by
    rintro ⟨q1, q2⟩
    rcases hn with ⟨_, h1, h2⟩ | h3
    · rw [h1, h2] at q2; simp at q2
    · omega
  rw [walk, if_pos (by omega), if_neg hfn] at ht
  have hpb := U.pb
  rw [lef_len hr] at hpb
  by_cases hH : hdr (lef zs o r) 2 = 0
  · rw [dif_pos hH] at ht
    have K := veil (cut_no h hz hr hH)
    clear h hz hr hb U hn hfn
    go_enter Try.func56, Try.ntmps56
    go_wp2_with fail
    refine (K.out).mono ?_
    rintro e w1 ⟨f, rfl, Y1, _⟩
    have VY := veil Y1
    clear Y1 K
    go_wp2_with fail
    go_ret
    subst ht
    exact ⟨5, s, _, rfl, VY.out, .inr (.inr ⟨by omega, rfl, fun q => absurd q (by omega)⟩)⟩
  · rw [dif_neg hH] at ht
    obtain ⟨H, hHH⟩ : ∃ H, hdr (lef zs o r) 2 = H := ⟨_, rfl⟩
    rw [hHH] at ht hH
    have K := veil (cut_yes h hz hr H hHH hH)
    have h8 : 8 ≤ H := by rw [← hHH]; exact hdr_eight (by omega)
    have hHr := (hdr_get hHH hH).2
    rw [lef_len hr] at hHr
    have HX := veil ((hz.drop o).take r |>.at_ 0)
    have e1 : (zs.drop (o + 2)).take (H - 2) = ((lef zs o r).take H).drop 2 := by
      rw [lef, List.take_take, Nat.min_eq_left hHr, List.drop_take, List.drop_drop]
    have VU := veil U
    have VT := veil ht
    have VR := veil hr
    have VZ := veil (hz.drop o |>.take r |>.take H)
    have VE := veil e1
    have VB := veil hb
    have VP := veil hpb
    have hln : ((lef zs o r).take H).length = (H - 2) + 2 := by rw [List.length_take, lef_len hr]; omega
    have VL := veil hln
    clear h hz hr hb U hn hfn ht e1 hpb hHH hln
    go_enter Try.func56, Try.ntmps56
    go_wp2_with fail
    refine (K.out).mono ?_
    rintro e w1 ⟨o', rfl, Y1, _, E1, O1⟩
    have HE1 := veil E1
    have HO1 := veil O1
    have rd1 := (rd_drop (o := o + 2) (r := H - 2) (Y1.at mem2))
    rw [VE.out] at rd1
    have K2 := veil (judgeAll_any Y1 ((lef zs o r).take H) (H - 2) VL.out (by have := VB.out; have := VR.out; omega) VZ.out (some ⟨b, o + 2, none⟩) (H - 2) rd1 (by have := VP.out; rw [VL.out]; omega))
    clear Y1 K E1 O1 rd1
    generalize hX : (lef zs o r).getD 0 0 = x at *
    go_wp2_with fail
    refine (K2.out).mono ?_
    clear K2
    generalize hO : opts ((lef zs o r).take H) s.p (decide (s.next = 0)) s.mc 2 false = O at *
    have he := opts_e ((lef zs o r).take H) s.p (decide (s.next = 0)) s.mc 2 false
    rw [hO] at he
    rintro e w2 ⟨s2, rfl, Y2, J⟩
    have ht := VT.out
    clear VT
    by_cases h0 : O.e = 0
    · rw [if_neg (by simpa using h0)] at ht
      have hs2 := J.1 h0
      subst hs2
      have K3 := goOn_any (c := c) Y2 (i := 0) rfl x ((H : Nat) : Int) (by omega) VP.out.1 (by have := VP.out.2; show s.p + _ < _; omega)
      have e3 : ((2 : Int) + ((H - 2 : Nat) : Int)) = (H : Int) := by omega
      have VK3 := veil K3
      rw [h0]
      have VTT := veil ht
      clear K3 J Y2 ht he
      have hwH : IntKind.i64.wrap (H : Int) = (H : Int) := by have := VB.out; have := VR.out; rw [IntKind.wrap_i64]; omega
      go_wp2_with fail
      refine (VK3.out).mono ?_
      rintro e w3 ⟨rfl, Y3, _⟩
      have VY := veil Y3
      clear VK3 Y3
      go_wp2_with fail
      go_ret
      refine ⟨0, _, _, rfl, VY.out, .inl ⟨rfl, o', r - H, rfl, HO1.out, by omega, ?_⟩⟩
      refine ⟨?_, VU.out.rest, VU.out.frag, VU.out.going, HX.out, ?_, VP.out.1, by have := VP.out.2; show s.p < _; omega⟩
      · rw [HE1.out]
        exact VTT.out
      · rw [lef_len HO1.out]
        have := VP.out
        exact ⟨by show 0 ≤ s.p + _; omega, by show s.p + (H : Int) + _ < _; omega⟩
    · rw [if_pos (by simpa using h0)] at ht
      have f0 : (O.e == 0) = false := by simpa using h0
      have VY := veil Y2
      have VJ := veil J
      have VTT := veil ht
      clear Y2 J ht
      go_wp2_with fail
      go_ret
      have ht := VTT.out
      subst ht
      refine ⟨O.e, _, _, rfl, VY.out, .inr (.inr ⟨h0, rfl, fun q => ?_⟩)⟩
      have := VJ.out.2 q
      subst this
      exact ⟨by simp [q], rfl, rfl⟩

set_option maxHeartbeats 2000000 in
theorem hops_to (h : LayF P w0 w (L3 g c b s (ct b o r) zs)) (hz : Byt zs) (hr : o + r ≤ zs.length) (hb : zs.length ≤ 16000000) (U : Un T s (lef zs o r)) (hn : s.next = 0) :
    Calls Try.prog 52 #[.pointer (some ⟨g, 0, none⟩)] w (StepTo P w0 g c b zs r T) := by
  have c5 : w.cell? ⟨g, 5, none⟩ = some (.bool s.first) := h.look mem0 rfl
  have c3 : w.cell? ⟨g, 3, none⟩ = some (.int .u64 s.p) := h.look mem0 rfl
  have c4 : w.cell? ⟨g, 4, none⟩ = some (.int .u64 s.told) := h.look mem0 rfl
  by_cases hf : s.first = true ∧ s.p = 40
  · have K := veil (options_to h hz hr hb U (.inl ⟨hn, hf.1, hf.2⟩))
    rw [hf.1] at c5
    rw [hf.2] at c3
    clear h hz hr hb U hn
    go_enter Try.func52, Try.ntmps52
    go_wp2_with fail
    refine (K.out).mono ?_
    rintro e w1 ⟨n, s', cu, rfl, Y, C⟩
    have VY := veil Y
    have VC := veil C
    clear Y C K
    go_wp2_with fail
    go_ret
    exact ⟨n, s', cu, rfl, VY.out, VC.out⟩
  · have ht := U.eq
    have hfn : (s.first && decide (s.p = 40)) = false := by
      cases hq : s.first with
      | false => rfl
      | true => simp only [Bool.true_and, decide_eq_false_iff_not]; exact fun q => hf ⟨hq, q⟩
    rw [walk, if_pos (by omega), if_pos ⟨hn, hfn⟩] at ht
    have K := veil (blame_any h (i := 0) rfl 1 s.told U.tb)
    have VT := veil ht
    clear h hz hr hb U hn ht hfn
    cases hq : s.first with
    | false =>
      rw [hq] at c5
      go_enter Try.func52, Try.ntmps52
      go_wp2_with fail
      refine (K.out).mono ?_
      rintro e w1 ⟨rfl, Y, _⟩
      have VY := veil Y
      clear Y K
      go_wp2_with fail
      go_ret
      have ht := VT.out
      subst ht
      exact ⟨7, _, _, rfl, VY.out, .inr (.inr ⟨by omega, rfl, fun _ => ⟨rfl, rfl, rfl⟩⟩)⟩
    | true =>
      rw [hq] at c5
      have fp : (s.p == 40) = false := by
        have : ¬ s.p = 40 := fun q => hf ⟨hq, q⟩
        simpa using this
      go_enter Try.func52, Try.ntmps52
      go_wp2_with fail
      refine (K.out).mono ?_
      rintro e w1 ⟨rfl, Y, _⟩
      have VY := veil Y
      clear Y K
      go_wp2_with fail
      go_ret
      have ht := VT.out
      subst ht
      exact ⟨7, _, _, rfl, VY.out, .inr (.inr ⟨by omega, rfl, fun _ => ⟨rfl, rfl, rfl⟩⟩)⟩

set_option maxHeartbeats 2000000 in
theorem route_to (h : LayF P w0 w (L3 g c b s (ct b o r) zs)) (hz : Byt zs) (hr : o + r ≤ zs.length) (hb : zs.length ≤ 16000000) (U : Un T s (lef zs o r)) (hn : s.next = 43) :
    Calls Try.prog 53 #[.pointer (some ⟨g, 0, none⟩)] w (StepTo P w0 g c b zs r T) := by
  have ht := U.eq
  rw [walk, if_neg (by omega), if_pos hn] at ht
  simp only [hdr_four] at ht
  have hpb := U.pb
  rw [lef_len hr] at hpb
  by_cases hH : hdr (lef zs o r) 2 = 0
  · rw [dif_pos hH] at ht
    have K := veil (cut_no h hz hr hH)
    clear h hz hr hb U hn
    go_enter Try.func53, Try.ntmps53
    go_wp2_with fail
    refine (K.out).mono ?_
    rintro e w1 ⟨f, rfl, Y1, _⟩
    have VY := veil Y1
    clear Y1 K
    go_wp2_with fail
    go_ret
    subst ht
    exact ⟨5, s, _, rfl, VY.out, .inr (.inr ⟨by omega, rfl, fun q => absurd q (by omega)⟩)⟩
  · rw [dif_neg hH] at ht
    obtain ⟨H, hHH⟩ : ∃ H, hdr (lef zs o r) 2 = H := ⟨_, rfl⟩
    rw [hHH] at ht hH
    have K := veil (cut_yes h hz hr H hHH hH)
    have h8 : 8 ≤ H := by rw [← hHH]; exact hdr_eight (by omega)
    have hHr := (hdr_get hHH hH).2
    rw [lef_len hr] at hHr
    have HX := veil ((hz.drop o).take r |>.at_ 0)
    have g3 : (bv zs)[o + 3]? = some (.int .u8 ((lef zs o r).getD 3 0)) := by
      rw [bv_get _ _ (by omega)]
      simp [List.getD, show 3 < r by omega]
    have VG := veil g3
    have VU := veil U
    have VT := veil ht
    have VR := veil hr
    have VB := veil hb
    have VP := veil hpb
    clear h hz hr hb U hn ht hpb hHH g3
    go_enter Try.func53, Try.ntmps53
    go_wp2_with fail
    refine (K.out).mono ?_
    rintro e w1 ⟨o', rfl, Y1, _, E1, O1⟩
    have HE1 := veil E1
    have HO1 := veil O1
    have VY1 := veil Y1
    have c3 : w1.cell? ⟨b, o + 2 + 1, none⟩ = some (.int .u8 ((lef zs o r).getD 3 0)) := Y1.look mem2 VG.out
    have cp : w1.cell? ⟨g, 3, none⟩ = some (.int .u64 s.p) := Y1.look mem0 rfl
    clear Y1 K E1 O1
    generalize hX : (lef zs o r).getD 0 0 = x at *
    generalize hX3 : (lef zs o r).getD 3 0 = x3 at *
    have hw3 : IntKind.u64.wrap (s.p + 3) = s.p + 3 := by have := VP.out; rw [IntKind.wrap_u64]; omega
    have i1 : (1 : Int) < ((H - 2 : Nat) : Int) := by omega
    by_cases h0 : x3 = 0
    · have ht := VT.out
      rw [if_neg (by simpa using h0)] at ht
      have K3 := goOn_any (c := c) VY1.out (i := 0) rfl x ((H : Nat) : Int) (by omega) VP.out.1 (by have := VP.out.2; omega)
      have e3 : ((2 : Int) + ((H - 2 : Nat) : Int)) = (H : Int) := by omega
      have VK3 := veil K3
      have VTT := veil ht
      rw [h0] at c3
      clear K3 ht VT
      have hwH : IntKind.i64.wrap (H : Int) = (H : Int) := by have := VB.out; have := VR.out; rw [IntKind.wrap_i64]; omega
      go_wp2_with fail
      refine (VK3.out).mono ?_
      rintro e w3 ⟨rfl, Y3, _⟩
      have VY := veil Y3
      clear VK3 Y3
      go_wp2_with fail
      go_ret
      refine ⟨0, _, _, rfl, VY.out, .inl ⟨rfl, o', r - H, rfl, HO1.out, by omega, ?_⟩⟩
      refine ⟨?_, VU.out.rest, VU.out.frag, VU.out.going, HX.out, ?_, VP.out.1, by have := VP.out.2; show s.p < _; omega⟩
      · rw [HE1.out]
        exact VTT.out
      · rw [lef_len HO1.out]
        have := VP.out
        exact ⟨by show 0 ≤ s.p + _; omega, by show s.p + (H : Int) + _ < _; omega⟩
    · have ht := VT.out
      rw [if_pos (by simpa using h0)] at ht
      have f0 : (x3 == 0) = false := by simpa using h0
      have K3 := veil (blame_any VY1.out (i := 0) rfl 0 (s.p + 3) (by have := VP.out; omega))
      have VTT := veil ht
      clear ht VT VY1
      go_wp2_with fail
      refine (K3.out).mono ?_
      rintro e w3 ⟨rfl, Y3, _⟩
      have VY := veil Y3
      clear K3 Y3
      go_wp2_with fail
      go_ret
      have ht := VTT.out
      subst ht
      exact ⟨7, _, _, rfl, VY.out, .inr (.inr ⟨by omega, rfl, fun _ => ⟨rfl, rfl, rfl⟩⟩)⟩
end

end Go.Proofs.Ytfkjfdmepeahnaa.Hd
