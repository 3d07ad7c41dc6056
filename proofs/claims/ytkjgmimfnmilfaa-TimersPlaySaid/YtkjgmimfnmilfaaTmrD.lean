/-
  What the heap's down does to a queue of timers.
  Conditions: at most 256 timers.
-/
import Derived.Test.YtkjgmimfnmilfaaTmrH
namespace Go.Proofs.Ytkjgmimfnmilfaa.Tm5
open Go.RowKit Go.Proofs.Ytkjgmimfnmilfaa.Ops

/-- what comes of down: it moved and all is a heap; or it did not, and nothing below is less -/
def Went (w : World) (q b : Nat) (A : Option Addr) (N c : Nat) (l : List Tm) (n i0 : Nat) (e : Ending) (w' : World) : Prop :=
  (e = .returned (.bool true) ∧ Done w w' q b A N c l n) ∨ (e = .returned (.bool false) ∧ ∃ l', Qs w' q b A N c l' ∧ Up l' n i0 ∧ Sm l l' n ∧ Kept (Foot q b A) w w')
def Rdn (w wr : World) (q b : Nat) (A : Option Addr) (N c : Nat) (l : List Tm) (n i0 i : Nat) : Prop :=
  ∃ l', Qs wr q b A N c l' ∧ Dn l' n i ∧ Sm l l' n ∧ Kept (Foot q b A) w wr ∧ (i = i0 ∨ (i0 < i ∧ le (ix l' ((i - 1) / 2)) (ix l' i)))
/-- the loop has ended at i -/
structure Fin (w w' : World) (q b : Nat) (A : Option Addr) (N c : Nat) (l : List Tm) (n i0 i : Nat) : Prop where
  yes : i0 < i → Went w q b A N c l n i0 (.returned (.bool true)) w'
  no : i = i0 → Went w q b A N c l n i0 (.returned (.bool false)) w'
theorem fin {w wr w' : World} {q b : Nat} {A : Option Addr} {N c : Nat} {l l' : List Tm} {n i0 i : Nat} (hq : Qs wr q b A N c l') (hd : Dn l' n i) (hs : Sm l l' n) (hk : Kept (Foot q b A) w wr) (hi : i = i0 ∨ (i0 < i ∧ le (ix l' ((i - 1) / 2)) (ix l' i)))
    (hb : Below wr.heap.size wr w') (hc : ∀ c, 0 < c → c < n → (c - 1) / 2 = i → le (ix l' i) (ix l' c)) : Fin w w' q b A N c l n i0 i := by
  have hu := dn_done hd hc
  refine ⟨fun h => .inl ⟨rfl, l', hq.keep hb, up_done hu (.inr ?_), hs, hk.trans' (kept_below hb)⟩, fun h => .inr ⟨rfl, l', hq.keep hb, by subst h; exact hu, hs, hk.trans' (kept_below hb)⟩⟩
  rcases hi with e | e
  · omega
  · exact e.2

set_option maxHeartbeats 4000000 in
theorem down_any {w : World} {q b : Nat} {A : Option Addr} {N c : Nat} {l : List Tm} (h : Qs w q b A N c l) (n i0 : Nat) (hi : i0 < n) (hn : n ≤ N) (hN : N ≤ 256) (hu : Dn l n i0) (hl : l.length = N) :
    Calls Try.prog 35 #[.iface 38 (.pointer (some ⟨q, 0, none⟩)), .int .i64 i0, .int .i64 n] w (Went w q b A N c l n i0) := by
  have H0 : Hid (Rdn w w q b A N c l n i0 i0) := ⟨l, h, hu, Sm.refl l n, Kept.refl _ _, .inl rfl⟩
  have HL := veil hl
  clear h hu hl
  go_enter Try.func35, Try.ntmps35
  go_wp2_with fail
  go_loopw [7] (fun u wr => ∃ i : Nat, i0 ≤ i ∧ i < n ∧ u = .int .i64 i ∧ Hid (Rdn w wr q b A N c l n i0 i)) (fun u _ => n - (intOf u).toNat)
  case atStart => exact ⟨i0, Nat.le_refl _, hi, rfl, H0⟩
  case round =>
    clear H0 hi
    obtain ⟨i, hi0, hi, rfl, hR⟩ := hrel
    obtain ⟨l', hq, hd, hs, hk, hh⟩ := hR.out
    have HQ := veil hq
    have HD := veil hd
    have HS := veil hs
    have HK := veil hk
    have HI := veil hh
    have hll := veil (show n ≤ l'.length by rw [hs.1, HL.out]; exact hn)
    clear hR hq hd hs hk hh
    obtain ⟨j1, hj1⟩ : ∃ j, 2 * i + 1 = j := ⟨_, rfl⟩
    obtain ⟨j2, hj2⟩ : ∃ j, j1 + 1 = j := ⟨_, rfl⟩
    have e1 : 2 * (i : Int) + 1 = (j1 : Int) := by omega
    have e2 : (j1 : Int) + 1 = (j2 : Int) := by omega
    have EE := veil (And.intro hj1 hj2)
    have hij : i < j1 := by omega
    have hjj : j1 < j2 := by omega
    have hj9 : j2 ≤ 600 := by omega
    clear hj1 hj2
    have B0 := veil (Below.refl wr.heap.size wr)
    by_cases h1 : j1 < n
    · by_cases h2 : j2 < n
      · cases hz : lt (ix l' j2) (ix l' j1) with
        | false =>
          have HZ := veil hz
          clear hz
          have HM : Hid (∀ c, 0 < c → c < n → (c - 1) / 2 = i → le (ix l' j1) (ix l' c)) := fun c c0 cn ce => by
            have := EE.out
            by_cases q1 : c = j1
            · subst q1; exact le_refl _
            · have q2 : c = j2 := by omega
              subst q2; exact HZ.out
          have hm := m_less
          go_wp2_with fail
          clear hm
          refine (less_eq HQ.out j2 j1 (by omega) (by omega) HZ.out).mono ?_
          rintro e w7 ⟨rfl, hb7⟩
          have HB7 := veil hb7
          clear hb7
          cases hy : lt (ix l' j1) (ix l' i) with
          | false =>
            have HY := veil hy
            clear hy
            have HQ2 := veil (HQ.out.keep HB7.out)
            have HK2 := veil (HK.out.trans' (kept_below HB7.out))
            have hm := m_less
            go_wp2_with fail
            clear hm
            refine (less_eq HQ2.out j1 i (by omega) (by omega) HY.out).mono ?_
            rintro e w8 ⟨rfl, hb8⟩
            have HB8 := veil hb8
            clear hb8
            have HE := veil (fin HQ.out HD.out HS.out HK.out HI.out (HB7.out.trans (HB8.out.mono HB7.out.size)) (fun c c0 cn ce => le_trans HY.out (HM.out c c0 cn ce)))
            by_cases hgt : i0 < i
            · go_wp2_with fail
              go_ret
              exact HE.out.yes hgt
            · have hgt' : ¬ (i0 : Int) < (i : Int) := by omega
              go_wp2_with fail
              go_ret
              exact HE.out.no (by omega)
          | true =>
            have HY := veil hy
            clear hy
            have HQ2 := veil (HQ.out.keep HB7.out)
            have HK2 := veil (HK.out.trans' (kept_below HB7.out))
            have hm := m_less
            go_wp2_with fail
            clear hm
            refine (less_eq HQ2.out j1 i (by omega) (by omega) HY.out).mono ?_
            rintro e w8 ⟨rfl, hb8⟩
            have HB8 := veil hb8
            clear hb8
            have hm := m_swap
            go_wp2_with fail
            clear hm
            refine (swap_eq (HQ2.out.keep HB8.out) i j1 (by omega) (by omega) (by omega)).mono ?_
            rintro e w9 ⟨rfl, hq9, hk9⟩
            have HR : Hid (Rdn w w9 q b A N c l n i0 j1) := by
              have hd := dn_step HD.out (by have := hll.out; omega) (by omega) (by omega) (by have := EE.out; omega) hll.out HM.out HY.out
              exact ⟨_, hq9, hd.1, HS.out.sw (by omega) (by omega) hll.out, (HK2.out.trans' (kept_below HB8.out)).trans' hk9, .inr ⟨by omega, hd.2⟩⟩
            clear hq9 hk9
            go_wp2_with fail
            go_roundw
            case rel => exact ⟨j1, by omega, by omega, rfl, HR⟩
            case measure => simp [intOf]; omega
        | true =>
          have HZ := veil hz
          clear hz
          have HM : Hid (∀ c, 0 < c → c < n → (c - 1) / 2 = i → le (ix l' j2) (ix l' c)) := fun c c0 cn ce => by
            have := EE.out
            by_cases q1 : c = j1
            · subst q1; exact le_of_lt HZ.out
            · have q2 : c = j2 := by omega
              subst q2; exact le_refl _
          have hm := m_less
          go_wp2_with fail
          clear hm
          refine (less_eq HQ.out j2 j1 (by omega) (by omega) HZ.out).mono ?_
          rintro e w7 ⟨rfl, hb7⟩
          have HB7 := veil hb7
          clear hb7
          cases hy : lt (ix l' j2) (ix l' i) with
          | false =>
            have HY := veil hy
            clear hy
            have HQ2 := veil (HQ.out.keep HB7.out)
            have HK2 := veil (HK.out.trans' (kept_below HB7.out))
            have hm := m_less
            go_wp2_with fail
            clear hm
            refine (less_eq HQ2.out j2 i (by omega) (by omega) HY.out).mono ?_
            rintro e w8 ⟨rfl, hb8⟩
            have HB8 := veil hb8
            clear hb8
            have HE := veil (fin HQ.out HD.out HS.out HK.out HI.out (HB7.out.trans (HB8.out.mono HB7.out.size)) (fun c c0 cn ce => le_trans HY.out (HM.out c c0 cn ce)))
            by_cases hgt : i0 < i
            · go_wp2_with fail
              go_ret
              exact HE.out.yes hgt
            · have hgt' : ¬ (i0 : Int) < (i : Int) := by omega
              go_wp2_with fail
              go_ret
              exact HE.out.no (by omega)
          | true =>
            have HY := veil hy
            clear hy
            have HQ2 := veil (HQ.out.keep HB7.out)
            have HK2 := veil (HK.out.trans' (kept_below HB7.out))
            have hm := m_less
            go_wp2_with fail
            clear hm
            refine (less_eq HQ2.out j2 i (by omega) (by omega) HY.out).mono ?_
            rintro e w8 ⟨rfl, hb8⟩
            have HB8 := veil hb8
            clear hb8
            have hm := m_swap
            go_wp2_with fail
            clear hm
            refine (swap_eq (HQ2.out.keep HB8.out) i j2 (by omega) (by omega) (by omega)).mono ?_
            rintro e w9 ⟨rfl, hq9, hk9⟩
            have HR : Hid (Rdn w w9 q b A N c l n i0 j2) := by
              have hd := dn_step HD.out (by have := hll.out; omega) (by omega) (by omega) (by have := EE.out; omega) hll.out HM.out HY.out
              exact ⟨_, hq9, hd.1, HS.out.sw (by omega) (by omega) hll.out, (HK2.out.trans' (kept_below HB8.out)).trans' hk9, .inr ⟨by omega, hd.2⟩⟩
            clear hq9 hk9
            go_wp2_with fail
            go_roundw
            case rel => exact ⟨j2, by omega, by omega, rfl, HR⟩
            case measure => simp [intOf]; omega
      · have h2' : ¬ (j2 : Int) < (n : Int) := by omega
        have h2'' : decide ((j2 : Int) < (n : Int)) = false := by simpa using h2'
        have h2''' : decide (j2 < n) = false := by simpa using h2
        have HM : Hid (∀ c, 0 < c → c < n → (c - 1) / 2 = i → le (ix l' j1) (ix l' c)) := fun c c0 cn ce => by
          have := EE.out
          by_cases q1 : c = j1
          · subst q1; exact le_refl _
          · omega
        cases hy : lt (ix l' j1) (ix l' i) with
        | false =>
          have HY := veil hy
          clear hy
          have HQ2 := veil (HQ.out.keep B0.out)
          have HK2 := veil (HK.out.trans' (kept_below B0.out))
          have hm := m_less
          go_wp2_with fail
          clear hm
          refine (less_eq HQ2.out j1 i (by omega) (by omega) HY.out).mono ?_
          rintro e w8 ⟨rfl, hb8⟩
          have HB8 := veil hb8
          clear hb8
          have HE := veil (fin HQ.out HD.out HS.out HK.out HI.out (B0.out.trans (HB8.out.mono B0.out.size)) (fun c c0 cn ce => le_trans HY.out (HM.out c c0 cn ce)))
          by_cases hgt : i0 < i
          · go_wp2_with fail
            go_ret
            exact HE.out.yes hgt
          · have hgt' : ¬ (i0 : Int) < (i : Int) := by omega
            go_wp2_with fail
            go_ret
            exact HE.out.no (by omega)
        | true =>
          have HY := veil hy
          clear hy
          have HQ2 := veil (HQ.out.keep B0.out)
          have HK2 := veil (HK.out.trans' (kept_below B0.out))
          have hm := m_less
          go_wp2_with fail
          clear hm
          refine (less_eq HQ2.out j1 i (by omega) (by omega) HY.out).mono ?_
          rintro e w8 ⟨rfl, hb8⟩
          have HB8 := veil hb8
          clear hb8
          have hm := m_swap
          go_wp2_with fail
          clear hm
          refine (swap_eq (HQ2.out.keep HB8.out) i j1 (by omega) (by omega) (by omega)).mono ?_
          rintro e w9 ⟨rfl, hq9, hk9⟩
          have HR : Hid (Rdn w w9 q b A N c l n i0 j1) := by
            have hd := dn_step HD.out (by have := hll.out; omega) (by omega) (by omega) (by have := EE.out; omega) hll.out HM.out HY.out
            exact ⟨_, hq9, hd.1, HS.out.sw (by omega) (by omega) hll.out, (HK2.out.trans' (kept_below HB8.out)).trans' hk9, .inr ⟨by omega, hd.2⟩⟩
          clear hq9 hk9
          go_wp2_with fail
          go_roundw
          case rel => exact ⟨j1, by omega, by omega, rfl, HR⟩
          case measure => simp [intOf]; omega
    · have h1' : ¬ (j1 : Int) < (n : Int) := by omega
      have h1'' : (n : Int) ≤ (j1 : Int) := by omega
      have HE := veil (fin HQ.out HD.out HS.out HK.out HI.out B0.out (fun c c0 cn ce => by have := EE.out; omega))
      by_cases hgt : i0 < i
      · go_wp2_with fail
        go_ret
        exact HE.out.yes hgt
      · have hgt' : ¬ (i0 : Int) < (i : Int) := by omega
        go_wp2_with fail
        go_ret
        exact HE.out.no (by omega)

end Go.Proofs.Ytkjgmimfnmilfaa.Tm5
