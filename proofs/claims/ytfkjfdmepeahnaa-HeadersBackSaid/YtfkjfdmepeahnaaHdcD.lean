/-
  A header's options judged, by the code: whatever they are.
  Conditions: at most 16000000 bytes.
-/
import Derived.Test.YtfkjfdmepeahnaaHdcC
import Derived.Deep.RegionHeld3
import Derived.Deep.RegionLaw
import Derived.BigRegion
namespace Go.Proofs.Ytfkjfdmepeahnaa.Hd
set_option maxRecDepth 100000
open Go.RowKit Ops

theorem opts_step {h : List Int} {p : Int} {hop mc : Bool} {i : Nat} {al : Bool} {x y : Int} (hx : h.getD i 0 = x) (hy : h.getD (i + 1) 0 = y) (h0 : x ≠ 0) (h2 : i + 2 + y.toNat ≤ h.length) :
    opts h p hop mc i al = if x < 64 then opts h p hop mc (i + 2 + y.toNat) (al || (hop && decide (x = 5) && decide (y = 2))) else if x < 128 then errT 8 else if 192 ≤ x ∧ mc = true then errT 8 else faulT 2 (p + i) al := by
  rw [opts, hx, hy, if_neg (by omega), if_neg h0, if_neg (by omega), if_neg (by omega)]
  by_cases h1 : x = 1
  · subst h1
    rw [if_pos rfl, if_pos (by omega)]
    simp
  · rw [if_neg h1]
    by_cases h5 : hop = true ∧ x = 5 ∧ y = 2
    · obtain ⟨q1, q2, q3⟩ := h5
      subst q1 q2 q3
      rw [if_pos ⟨rfl, rfl, rfl⟩, if_pos (by omega)]
      simp
    · rw [if_neg h5]
      by_cases h6 : x < 64
      · rw [if_pos h6, if_pos h6]
        have e : (hop && decide (x = 5) && decide (y = 2)) = false := by
          cases hop
          · simp
          · simp only [true_and] at h5
            simp only [Bool.true_and, Bool.and_eq_false_imp, decide_eq_true_eq, decide_eq_false_iff_not]
            exact fun a b => h5 ⟨a, b⟩
        rw [e, Bool.or_false]
      · rw [if_neg h6, if_neg h6]

/-- what the options leave of the walk's state -/
def Judged (s : St) (o : Tl) (s' : St) : Prop := (o.e = 0 → s' = { s with al := s.al || o.alert }) ∧ (o.e = 7 → s' = { s with al := s.al || o.alert, code := o.code, place := o.place })
def St.on (s : St) (a : Bool) : St := { s with al := s.al || a }
theorem on_no (s : St) : s.on false = s := by simp [St.on]
theorem on_mark (s : St) (a : Bool) (x y : Int) : (s.on a).mark x y = s.on (a || (decide (s.next = 0) && decide (x = 5) && decide (y = 2))) := by
  unfold St.mark
  by_cases h : x = 5 ∧ y = 2 ∧ s.next = 0
  · rw [if_pos (show x = 5 ∧ y = 2 ∧ (s.on a).next = 0 from h)]
    simp [St.on, h.1, h.2.1, h.2.2]
  · rw [if_neg (show ¬ (x = 5 ∧ y = 2 ∧ (s.on a).next = 0) from h)]
    have e : (decide (s.next = 0) && decide (x = 5) && decide (y = 2)) = false := by
      by_cases q1 : s.next = 0 <;> by_cases q2 : x = 5 <;> by_cases q3 : y = 2 <;> simp [q1, q2, q3]
      exact h ⟨q2, q3, q1⟩
    rw [e, Bool.or_false]
/-- a cutter's bytes that are left -/
def leftAt (w : World) (c : Nat) : Nat := match w.cell? ⟨c, 0, none⟩ with | some (.slice _ n _) => n | _ => 0

section
variable {P : Nat → Prop} {w0 w : World} {g c b : Nat} {s : St} {cu : List Value} {zs : List Int}

theorem left_at {L : List Blk} {c2 b2 o r : Nat} (h : LayF P w0 w L) (hm : (c2, 100, ct b2 o r) ∈ L) : leftAt w c2 = r := by
  have := h.look hm (o := 0) rfl
  unfold Hd.leftAt
  rw [this]

abbrev L5 (c2 b2 o r g c b : Nat) (hs : List Int) (s : St) (cu : List Value) (zs : List Int) : List Blk := (c2, 100, ct b2 o r) :: (b2, 5, bv hs) :: L3 g c b s cu zs
abbrev L5b (c2 b2 g c b : Nat) (hs : List Int) (s : St) (cu : List Value) (zs : List Int) : List Blk := (c2, 100, ctBad) :: (b2, 5, bv hs) :: L3 g c b s cu zs

set_option linter.unusedSimpArgs false in
set_option maxHeartbeats 4000000 in
theorem judgeAll_any (h : LayF P w0 w (L3 g c b s cu zs)) (hd : List Int) (n : Nat) (hlen : hd.length = n + 2) (hn : n ≤ 16000000) (hz : Byt hd) (A : Option Addr) (cc : Nat) (hr : Rd w A (hd.drop 2)) (hp : 0 ≤ s.p ∧ s.p + hd.length < 18446744073709551616) :
    Calls Try.prog 62 #[.pointer (some ⟨g, 0, none⟩), .slice A n cc] w fun e w' => ∃ s', e = .returned (.int .i64 (opts hd s.p (decide (s.next = 0)) s.mc 2 false).e) ∧ LayF P w0 w' (L3 g c b s' cu zs) ∧ Judged s (opts hd s.p (decide (s.next = 0)) s.mc 2 false) s' := by
  obtain ⟨R, hR⟩ : ∃ R, opts hd s.p (decide (s.next = 0)) s.mc 2 false = R := ⟨_, rfl⟩
  rw [hR]
  obtain ⟨hs, hhs⟩ : ∃ hs, hd.drop 2 = hs := ⟨_, rfl⟩
  have hsl : hs.length = n := by rw [← hhs, List.length_drop]; omega
  have hsz : Byt hs := by rw [← hhs]; exact hz.drop 2
  rw [hhs] at hr
  have K := veil (h.cut A n cc hsl (by omega) hr)
  have HL := veil hlen
  have HN := veil hn
  have HZ := veil hz
  have HS := veil hsl
  have HSZ := veil hsz
  have HH := veil hhs
  have HR := veil hR
  have HP := veil hp
  clear h hlen hn hz hr hp hsl hsz hhs hR
  go_enter Try.func62, Try.ntmps62
  go_wp2_with fail
  refine (K.out).mono ?_
  rintro e w1 ⟨b2, _, rfl, Y1, _⟩
  have e2 : b2 ≠ b2 + 1 := by omega
  have VY0 := veil (show LayF P w0 w1 (L5 (b2 + 1) b2 0 n g c b hs (s.on false) cu zs) by rw [on_no]; exact Y1)
  clear K Y1
  generalize b2 + 1 = c2 at *
  have HNE := veil e2
  clear e2
  go_wp2_with fail
  go_loopw [] (fun wr => ∃ (o2 r2 : Nat) (a1 : Bool), r2 ≤ n ∧ Hid (o2 + r2 ≤ n) ∧ Hid (lef hs o2 r2 = hd.drop (n + 2 - r2)) ∧ Hid (opts hd s.p (decide (s.next = 0)) s.mc (n + 2 - r2) a1 = R) ∧ Hid (LayF P w0 wr (L5 c2 b2 o2 r2 g c b hs (s.on a1) cu zs))) (fun wr => leftAt wr c2)
  case atStart => exact ⟨0, n, false, Nat.le_refl _, veil (by omega), veil (by rw [lef, List.drop_zero, List.take_of_length_le (by rw [HS.out]; omega), show n + 2 - n = 2 by omega]; exact HH.out.symm), veil (by rw [show n + 2 - n = 2 by omega]; exact HR.out), VY0⟩
  case round =>
    obtain ⟨o2, r2, a1, hrn, HO, HE, HT, VY⟩ := hrel
    clear VY0 HR
    have KL := veil (VY.out.left mem0)
    have M0 := veil (left_at VY.out mem0)
    by_cases h0 : r2 = 0
    · subst h0
      have hT := HT.out
      rw [opts, if_pos (by rw [HL.out]; omega)] at hT
      clear HT HE HO
      go_wp2_with fail
      refine (KL.out).mono ?_
      rintro e w3 ⟨rfl, rfl⟩
      go_wp2_with fail
      go_ret
      subst hT
      exact ⟨s.on a1, rfl, VY.out.sub (List.sublist_append_right [_, _] _), fun _ => rfl, fun q => absurd (show (0 : Int) = 7 from q) (by omega)⟩
    · have r0 : (0 : Int) < (r2 : Int) := by omega
      have hi : n + 2 - r2 < hd.length := by rw [HL.out]; omega
      obtain ⟨i, hi2⟩ : ∃ i, n + 2 - r2 = i := ⟨_, rfl⟩
      rw [hi2] at hi
      have HT1 := HT.out
      have HE1 := HE.out
      rw [hi2] at HT1 HE1
      have ro : o2 + r2 ≤ hs.length := by rw [HS.out]; exact HO.out
      have n1 := lef_one ro (by omega : 1 ≤ r2)
      have g1 : (lef hs o2 r2).getD 0 0 = hd.getD i 0 := by rw [HE1]; simp [List.getD]
      rw [g1] at n1
      have l1 := lef_cut (o' := if r2 = 1 then o2 else o2 + 1) ro (by omega : 1 ≤ r2) rfl
      obtain ⟨o3, ho3⟩ : ∃ o3, (if r2 = 1 then o2 else o2 + 1) = o3 := ⟨_, rfl⟩
      rw [ho3] at l1
      have E3 : Hid (lef hs o3 (r2 - 1) = hd.drop (n + 2 - (r2 - 1))) := veil (by rw [l1.1, HE1, List.drop_drop, show n + 2 - (r2 - 1) = i + 1 by omega])
      have O3 : Hid (o3 + (r2 - 1) ≤ n) := veil (by have := l1.2; rw [HS.out] at this; exact this)
      have KN : Hid (∀ {u}, LayF P w0 u (L5 c2 b2 o2 r2 g c b hs (s.on a1) cu zs) → Calls Try.prog 43 #[.pointer (some ⟨c2, 0, none⟩), .int .i64 1] u fun e w' => e = .returned (.int .u64 (hd.getD i 0)) ∧ LayF P w0 w' (L5 c2 b2 o3 (r2 - 1) g c b hs (s.on a1) cu zs) ∧ w'.heap.size = u.heap.size)   := veil (fun q => by
        have := q.num (i := 0) rfl mem1 HNE.out HSZ.out ro 1 (by omega) (by omega) (by omega) o3 ho3
        rw [n1] at this
        exact this)
      have hxb := HZ.out.at_ i
      have VX := veil (rfl : hd.getD i 0 = hd.getD i 0)
      generalize hx : hd.getD i 0 = x at *
      replace VX := veil hx
      have hwx : IntKind.u8.wrap x = x := by rw [IntKind.wrap_u8]; omega
      have hw1 : IntKind.u64.wrap (s.p + 2) = s.p + 2 := by have := HP.out; rw [HL.out] at this; rw [IntKind.wrap_u64]; omega
      have hw2 : IntKind.i64.wrap ((n : Int) - (r2 : Int)) = (n : Int) - (r2 : Int) := by have := HN.out; rw [IntKind.wrap_i64]; omega
      have hw3 : IntKind.u64.wrap ((n : Int) - (r2 : Int)) = (n : Int) - (r2 : Int) := by have := HN.out; rw [IntKind.wrap_u64]; omega
      have hw4 : IntKind.u64.wrap (s.p + 2 + ((n : Int) - (r2 : Int))) = s.p + (i : Nat) := by have := HP.out; rw [HL.out] at this; rw [IntKind.wrap_u64]; omega
      have pb : 0 ≤ s.p + (i : Nat) ∧ s.p + (i : Nat) < 18446744073709551616 := by have := HP.out; rw [HL.out] at this; omega
      generalize hq : s.p + (i : Nat) = q at *
      clear ro n1 g1 l1 HE1 HT HE HO ho3
      go_wp2_with fail
      refine (KL.out).mono ?_
      rintro e w3 ⟨rfl, rfl⟩
      clear KL
      have VD := veil VY.out.drew
      have KL := veil (VD.out.left mem0)
      have D3 := veil (VD.out.look mem2 (o := 3) rfl)
      replace KN := veil (KN.out VD.out)
      clear VD
      go_wp2_with fail
      refine wp_region_noPanic ?_
      refine wp_region_held_drew (S := (fun w' => w'.cell? ⟨g, 3, none⟩ = some (.int .u64 s.p))) (by kernel_rfl) D3.out (fun hHeld => ?_)
      refine wpAnyH_take (i := 0) (v := ?_) (by rfl) (by kernel_rfl) (by kernel_rfl) (by kernel_rfl) (fun _ _ _ h => h) (Or.inl ⟨by rfl, ?_⟩) hHeld ?_
      rotate_left
      · intro w' hSw
        (try dsimp only at hSw)
        simp only [List.getElem_toArray, List.getElem_cons_zero, List.getElem_cons_succ]
        go_simp
        all_goals (try with_reducible rfl)
      try simp only [Act.put, List.setIfInBounds_toArray, List.set_cons_zero, List.set_cons_succ, List.getElem_toArray, List.getElem_cons_zero, List.getElem_cons_succ]
      refine wpAnyH_take (i := 1) (v := ?_) (by rfl) (by kernel_rfl) (by kernel_rfl) (by kernel_rfl) (fun _ _ _ h => h) (Or.inl ⟨by rfl, ?_⟩) hHeld ?_
      rotate_left
      · intro w' hSw
        (try dsimp only at hSw)
        simp only [List.getElem_toArray, List.getElem_cons_zero, List.getElem_cons_succ]
        go_simp
        all_goals (try with_reducible rfl)
      try simp only [Act.put, List.setIfInBounds_toArray, List.set_cons_zero, List.set_cons_succ, List.getElem_toArray, List.getElem_cons_zero, List.getElem_cons_succ]
      refine wpAnyH_take (i := 2) (v := ?_) (by rfl) (by kernel_rfl) (by kernel_rfl) (by kernel_rfl) (fun _ _ _ h => h) (Or.inl ⟨by rfl, ?_⟩) hHeld ?_
      rotate_left
      · intro w' hSw
        (try dsimp only at hSw)
        simp only [List.getElem_toArray, List.getElem_cons_zero, List.getElem_cons_succ]
        go_simp
        all_goals (try with_reducible rfl)
      try simp only [Act.put, List.setIfInBounds_toArray, List.set_cons_zero, List.set_cons_succ, List.getElem_toArray, List.getElem_cons_zero, List.getElem_cons_succ]
      refine wpAnyH_take (i := 3) (v := ?_) (by rfl) (by kernel_rfl) (by kernel_rfl) (by kernel_rfl) (fun _ _ _ h => h) (Or.inl ⟨by rfl, ?_⟩) hHeld ?_
      rotate_left
      · intro w' hSw
        (try dsimp only at hSw)
        simp only [List.getElem_toArray, List.getElem_cons_zero, List.getElem_cons_succ]
        go_simp
        all_goals (try with_reducible rfl)
      try simp only [Act.put, List.setIfInBounds_toArray, List.set_cons_zero, List.set_cons_succ, List.getElem_toArray, List.getElem_cons_zero, List.getElem_cons_succ]
      refine wpAnyH_take (i := 4) (v := ?_) (by rfl) (by kernel_rfl) (by kernel_rfl) (by kernel_rfl) (fun _ _ _ h => h) (Or.inl ⟨by rfl, ?_⟩) hHeld ?_
      rotate_left
      · intro w' hSw
        (try dsimp only at hSw)
        simp only [List.getElem_toArray, List.getElem_cons_zero, List.getElem_cons_succ]
        go_simp
        all_goals (try with_reducible rfl)
      try simp only [Act.put, List.setIfInBounds_toArray, List.set_cons_zero, List.set_cons_succ, List.getElem_toArray, List.getElem_cons_zero, List.getElem_cons_succ]
      refine wpAnyH_take (i := 5) (v := ?_) (by rfl) (by kernel_rfl) (by kernel_rfl) (by kernel_rfl) (fun _ _ _ h => h) (Or.inl ⟨by rfl, ?_⟩) hHeld ?_
      rotate_left
      · intro w' hSw
        (try dsimp only at hSw)
        simp only [List.getElem_toArray, List.getElem_cons_zero, List.getElem_cons_succ]
        go_simp
        all_goals (try with_reducible rfl)
      try simp only [Act.put, List.setIfInBounds_toArray, List.set_cons_zero, List.set_cons_succ, List.getElem_toArray, List.getElem_cons_zero, List.getElem_cons_succ]
      refine wpAnyH_take (i := 6) (v := ?_) (by rfl) (by kernel_rfl) (by kernel_rfl) (by kernel_rfl) (fun _ _ _ h => h) (Or.inl ⟨by rfl, ?_⟩) hHeld ?_
      rotate_left
      · intro w' hSw
        (try dsimp only at hSw)
        simp only [List.getElem_toArray, List.getElem_cons_zero, List.getElem_cons_succ]
        go_simp
        all_goals (try with_reducible rfl)
      try simp only [Act.put, List.setIfInBounds_toArray, List.set_cons_zero, List.set_cons_succ, List.getElem_toArray, List.getElem_cons_zero, List.getElem_cons_succ]
      refine wpAnyH_take (i := 7) (v := ?_) (by rfl) (by kernel_rfl) (by kernel_rfl) (by kernel_rfl) (fun _ _ _ h => h) (Or.inl ⟨by rfl, ?_⟩) hHeld ?_
      rotate_left
      · intro w' hSw
        (try dsimp only at hSw)
        simp only [List.getElem_toArray, List.getElem_cons_zero, List.getElem_cons_succ]
        go_simp
        all_goals (try with_reducible rfl)
      try simp only [Act.put, List.setIfInBounds_toArray, List.set_cons_zero, List.set_cons_succ, List.getElem_toArray, List.getElem_cons_zero, List.getElem_cons_succ]
      refine wpAnyH_ready (rs := [8]) (by kernel_rfl) (by simp) ?_
      refine AllReadyH.cons (by rfl) (fun K hK => ?_) AllReadyH.nil
      simp only [List.getElem_toArray, List.getElem_cons_zero, List.getElem_cons_succ]
      go_simp
      refine (KL.out).mono ?_
      rintro e w3 ⟨rfl, rfl⟩
      (try dsimp only)
      refine hK.out _ _ D3.out (fun hHeld => ?_)
      clear hK K
      try simp only [Act.put, List.setIfInBounds_toArray, List.set_cons_zero, List.set_cons_succ, List.getElem_toArray, List.getElem_cons_zero, List.getElem_cons_succ]
      refine wpAnyH_take (i := 9) (v := ?_) (by rfl) (by kernel_rfl) (by kernel_rfl) (by kernel_rfl) (fun _ _ _ h => h) (Or.inl ⟨by rfl, ?_⟩) hHeld ?_
      rotate_left
      · intro w' hSw
        (try dsimp only at hSw)
        simp only [List.getElem_toArray, List.getElem_cons_zero, List.getElem_cons_succ]
        go_simp
        all_goals (try with_reducible rfl)
      try simp only [Act.put, List.setIfInBounds_toArray, List.set_cons_zero, List.set_cons_succ, List.getElem_toArray, List.getElem_cons_zero, List.getElem_cons_succ]
      refine wpAnyH_take (i := 10) (v := ?_) (by rfl) (by kernel_rfl) (by kernel_rfl) (by kernel_rfl) (fun _ _ _ h => h) (Or.inl ⟨by rfl, ?_⟩) hHeld ?_
      rotate_left
      · intro w' hSw
        (try dsimp only at hSw)
        simp only [List.getElem_toArray, List.getElem_cons_zero, List.getElem_cons_succ]
        go_simp
        all_goals (try with_reducible rfl)
      try simp only [Act.put, List.setIfInBounds_toArray, List.set_cons_zero, List.set_cons_succ, List.getElem_toArray, List.getElem_cons_zero, List.getElem_cons_succ]
      refine wpAnyH_take (i := 11) (v := ?_) (by rfl) (by kernel_rfl) (by kernel_rfl) (by kernel_rfl) (fun _ _ _ h => h) (Or.inl ⟨by rfl, ?_⟩) hHeld ?_
      rotate_left
      · intro w' hSw
        (try dsimp only at hSw)
        simp only [List.getElem_toArray, List.getElem_cons_zero, List.getElem_cons_succ]
        go_simp
        all_goals (try with_reducible rfl)
      try simp only [Act.put, List.setIfInBounds_toArray, List.set_cons_zero, List.set_cons_succ, List.getElem_toArray, List.getElem_cons_zero, List.getElem_cons_succ]
      refine wpAnyH_take (i := 12) (v := ?_) (by rfl) (by kernel_rfl) (by kernel_rfl) (by kernel_rfl) (fun _ _ _ h => h) (Or.inl ⟨by rfl, ?_⟩) hHeld ?_
      rotate_left
      · intro w' hSw
        (try dsimp only at hSw)
        simp only [List.getElem_toArray, List.getElem_cons_zero, List.getElem_cons_succ]
        go_simp
        all_goals (try with_reducible rfl)
      try simp only [Act.put, List.setIfInBounds_toArray, List.set_cons_zero, List.set_cons_succ, List.getElem_toArray, List.getElem_cons_zero, List.getElem_cons_succ]
      refine wpAnyH_done (by kernel_rfl) ?_ _
      refine NoPanic.normal ?_
      clear hHeld
      clear KL D3 hw1 hw2 hw3 hw4
      go_wp2_with fail
      refine (KN.out).mono ?_
      rintro e w4 ⟨rfl, Y4, s4⟩
      have VY4 := veil Y4
      clear Y4 KN s4
      by_cases hx0 : x = 0
      · subst hx0
        rw [opts, if_neg (by omega), VX.out, if_pos rfl] at HT1
        have HT2 : Hid (opts hd s.p (decide (s.next = 0)) s.mc (n + 2 - (r2 - 1)) a1 = R) := veil (by rw [show n + 2 - (r2 - 1) = i + 1 by omega]; exact HT1)
        clear HT1 VX
        go_wp2_with fail
        go_roundw
        case rel => exact ⟨o3, r2 - 1, a1, by omega, O3, E3, HT2, VY4⟩
        case measure => rw [left_at VY4.out mem0, M0.out]; omega
      · have fx0 : (x == 0) = false := by simpa using hx0
        by_cases h1 : r2 = 1
        · rw [opts, if_neg (by omega), VX.out, if_neg hx0, if_pos (by rw [HL.out]; omega)] at HT1
          have K5 := veil (VY4.out.numOver (i := 0) rfl 1 (by omega))
          have HT2 := veil HT1
          clear HT1 VX
          go_wp2_with fail
          refine (K5.out).mono ?_
          rintro e w5 ⟨rfl, Y5, s5⟩
          have VY5 := veil (show LayF P w0 w5 (L5b c2 b2 g c b hs (s.on a1) cu zs) from Y5)
          have K6 := veil (VY5.out.bytesBad mem0 0)
          have K7 := veil (VY5.out.badBad mem0)
          clear K5 Y5 s5
          go_wp2_with fail
          refine (K6.out).mono ?_
          rintro e w6 ⟨rfl, rfl⟩
          go_wp2_with fail
          refine (K7.out).mono ?_
          rintro e w6 ⟨rfl, rfl⟩
          clear K6 K7
          go_wp2_with fail
          go_ret
          have hT := HT2.out
          subst hT
          exact ⟨s.on a1, rfl, VY5.out.sub (List.sublist_append_right [_, _] _), fun q => absurd (show (4 : Int) = 0 from q) (by omega), fun q => absurd (show (4 : Int) = 7 from q) (by omega)⟩
        · have ro : o3 + (r2 - 1) ≤ hs.length := by rw [HS.out]; exact O3.out
          have n1 := lef_one ro (by omega : 1 ≤ r2 - 1)
          have g1 : (lef hs o3 (r2 - 1)).getD 0 0 = hd.getD (i + 1) 0 := by rw [E3.out, show n + 2 - (r2 - 1) = i + 1 by omega]; simp [List.getD]
          rw [g1] at n1
          have l1 := lef_cut (o' := if r2 - 1 = 1 then o3 else o3 + 1) ro (by omega : 1 ≤ r2 - 1) rfl
          obtain ⟨o4, ho4⟩ : ∃ o4, (if r2 - 1 = 1 then o3 else o3 + 1) = o4 := ⟨_, rfl⟩
          rw [ho4] at l1
          obtain ⟨r4, hr4⟩ : ∃ r4, r2 - 1 - 1 = r4 := ⟨_, rfl⟩
          have E4 : Hid (lef hs o4 r4 = hd.drop (i + 2)) := veil (by rw [← hr4, l1.1, E3.out, List.drop_drop, show n + 2 - (r2 - 1) + 1 = i + 2 by omega])
          have O4 : Hid (o4 + r4 ≤ hs.length) := veil (by rw [← hr4]; exact l1.2)
          have K5 := VY4.out.num (i := 0) rfl mem1 HNE.out HSZ.out ro 1 (by omega) (by omega) (by omega) o4 ho4
          rw [n1, hr4] at K5
          replace K5 := veil (show Calls Try.prog 43 #[.pointer (some ⟨c2, 0, none⟩), .int .i64 1] w4 fun e w' => e = .returned (.int .u64 (hd.getD (i + 1) 0)) ∧ LayF P w0 w' (L5 c2 b2 o4 r4 g c b hs (s.on a1) cu zs) ∧ w'.heap.size = w4.heap.size from K5)
          have hyb := HZ.out.at_ (i + 1)
          have VW := veil (rfl : hd.getD (i + 1) 0 = hd.getD (i + 1) 0)
          generalize hy : hd.getD (i + 1) 0 = y at *
          replace VW := veil hy
          have hwy : IntKind.i64.wrap y = y := by rw [IntKind.wrap_i64]; omega
          obtain ⟨k, hk⟩ : ∃ k : Nat, y = k := ⟨y.toNat, by omega⟩
          subst hk
          clear ro n1 g1 l1 ho4 hy
          go_wp2_with fail
          refine (K5.out).mono ?_
          rintro e w5 ⟨rfl, Y5, s5⟩
          have VY5 := veil Y5
          clear K5 Y5 s5
          by_cases h2 : r4 < k
          · rw [opts, if_neg (by omega), VX.out, if_neg hx0, if_neg (by rw [HL.out]; omega), VW.out, if_pos (by rw [HL.out]; omega)] at HT1
            have HT2 := veil HT1
            have K6 := veil (VY5.out.bytesOver (i := 0) rfl (k : Int) (by omega))
            clear HT1
            go_wp2_with fail
            refine (K6.out).mono ?_
            rintro e w6 ⟨rfl, Y6, s6⟩
            have VY6 := veil (show LayF P w0 w6 (L5b c2 b2 g c b hs (s.on a1) cu zs) from Y6)
            have K7 := veil (VY6.out.badBad mem0)
            clear K6 Y6 s6
            go_wp2_with fail
            refine (K7.out).mono ?_
            rintro e w7 ⟨rfl, rfl⟩
            clear K7
            go_wp2_with fail
            go_ret
            have hT := HT2.out
            subst hT
            exact ⟨s.on a1, rfl, VY6.out.sub (List.sublist_append_right [_, _] _), fun q => absurd (show (4 : Int) = 0 from q) (by omega), fun q => absurd (show (4 : Int) = 7 from q) (by omega)⟩
          · have l6 := lef_cut (o' := if r4 = k then o4 else o4 + k) O4.out (by omega : k ≤ r4) rfl
            obtain ⟨o6, ho6⟩ : ∃ o6, (if r4 = k then o4 else o4 + k) = o6 := ⟨_, rfl⟩
            rw [ho6] at l6
            have K6 := VY5.out.bytes (i := 0) rfl k (by omega) o6 ho6
            replace K6 := veil (show Calls Try.prog 42 #[.pointer (some ⟨c2, 0, none⟩), .int .i64 k] w5 fun e w' => e = .returned (.slice (some ⟨b2, o4, none⟩) k k) ∧ LayF P w0 w' (L5 c2 b2 o6 (r4 - k) g c b hs (s.on a1) cu zs) ∧ w'.heap.size = w5.heap.size from K6)
            have E6 : Hid (lef hs o6 (r4 - k) = hd.drop (n + 2 - (r4 - k))) := veil (by rw [l6.1, E4.out, List.drop_drop, show n + 2 - (r4 - k) = i + 2 + k by omega])
            have O6 : Hid (o6 + (r4 - k) ≤ n) := veil (by have := l6.2; rw [HS.out] at this; exact this)
            rw [opts_step VX.out VW.out hx0 (by rw [HL.out]; omega), hq, Int.toNat_natCast] at HT1
            have HT2 := veil HT1
            clear HT1 l6 ho6
            go_wp2_with fail
            refine (K6.out).mono ?_
            rintro e w6 ⟨rfl, Y6, s6⟩
            have VY6 := veil Y6
            have K7 := veil (VY6.out.bad mem0)
            have KJ := judge_any VY6.out (i := 2) rfl x k q hxb pb
            clear K6 Y6 s6
            go_wp2_with fail
            refine (K7.out).mono ?_
            rintro e w7 ⟨rfl, rfl⟩
            clear K7
            have hT := HT2.out
            clear HT2
            rcases (by omega : x < 64 ∨ (¬ x < 64 ∧ x < 128) ∨ (¬ x < 64 ∧ ¬ x < 128)) with j1 | ⟨j1, j2⟩ | ⟨j1, j2⟩
            · rw [if_pos j1] at hT
              unfold jud at KJ
              rw [if_pos j1] at KJ
              replace KJ := veil KJ
              have HT3 : Hid (opts hd s.p (decide (s.next = 0)) s.mc (n + 2 - (r4 - k)) (a1 || (decide (s.next = 0) && decide (x = 5) && decide ((k : Int) = 2))) = R) := veil (by rw [show n + 2 - (r4 - k) = i + 2 + k by omega]; exact hT)
              clear hT
              go_wp2_with fail
              refine (KJ.out).mono ?_
              rintro e w8 ⟨rfl, Y8, s8⟩
              have VY8 := veil (show LayF P w0 w8 (L5 c2 b2 o6 (r4 - k) g c b hs (s.on (a1 || (decide (s.next = 0) && decide (x = 5) && decide ((k : Int) = 2)))) cu zs) by rw [← on_mark]; exact Y8)
              clear KJ Y8 s8
              go_wp2_with fail
              go_roundw
              case rel => exact ⟨o6, r4 - k, _, by omega, O6, E6, HT3, VY8⟩
              case measure => rw [left_at VY8.out mem0, M0.out]; omega
            · rw [if_neg j1, if_pos j2] at hT
              unfold jud at KJ
              rw [if_neg j1, if_pos j2] at KJ
              replace KJ := veil KJ
              have HT3 := veil hT
              clear hT
              go_wp2_with fail
              refine (KJ.out).mono ?_
              rintro e w8 ⟨rfl, Y8, s8⟩
              have VY8 := veil (show LayF P w0 w8 (L5 c2 b2 o6 (r4 - k) g c b hs (s.on a1) cu zs) from Y8)
              clear KJ Y8 s8
              go_wp2_with fail
              go_ret
              have hT := HT3.out
              subst hT
              exact ⟨s.on a1, rfl, VY8.out.sub (List.sublist_append_right [_, _] _), fun q => absurd (show (8 : Int) = 0 from q) (by omega), fun q => absurd (show (8 : Int) = 7 from q) (by omega)⟩
            · by_cases j3 : 192 ≤ x ∧ s.mc = true
              · rw [if_neg j1, if_neg j2, if_pos j3] at hT
                unfold jud at KJ
                rw [if_neg j1, if_neg j2, if_pos (show 192 ≤ x ∧ (s.on a1).mc = true from j3)] at KJ
                replace KJ := veil KJ
                have HT3 := veil hT
                clear hT
                go_wp2_with fail
                refine (KJ.out).mono ?_
                rintro e w8 ⟨rfl, Y8, s8⟩
                have VY8 := veil (show LayF P w0 w8 (L5 c2 b2 o6 (r4 - k) g c b hs (s.on a1) cu zs) from Y8)
                clear KJ Y8 s8
                go_wp2_with fail
                go_ret
                have hT := HT3.out
                subst hT
                exact ⟨s.on a1, rfl, VY8.out.sub (List.sublist_append_right [_, _] _), fun q => absurd (show (8 : Int) = 0 from q) (by omega), fun q => absurd (show (8 : Int) = 7 from q) (by omega)⟩
              · rw [if_neg j1, if_neg j2, if_neg j3] at hT
                unfold jud at KJ
                rw [if_neg j1, if_neg j2, if_neg (show ¬ (192 ≤ x ∧ (s.on a1).mc = true) from j3)] at KJ
                replace KJ := veil KJ
                have HT3 := veil hT
                clear hT
                go_wp2_with fail
                refine (KJ.out).mono ?_
                rintro e w8 ⟨rfl, Y8, s8⟩
                have VY8 := veil (show LayF P w0 w8 (L5 c2 b2 o6 (r4 - k) g c b hs ((s.on a1).blame 2 q) cu zs) from Y8)
                clear KJ Y8 s8
                go_wp2_with fail
                go_ret
                have hT := HT3.out
                subst hT
                exact ⟨(s.on a1).blame 2 q, rfl, VY8.out.sub (List.sublist_append_right [_, _] _), fun q => absurd (show (7 : Int) = 0 from q) (by omega), fun _ => rfl⟩
end

end Go.Proofs.Ytfkjfdmepeahnaa.Hd
