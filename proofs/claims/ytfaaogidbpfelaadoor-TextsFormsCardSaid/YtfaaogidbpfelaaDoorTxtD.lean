/-
  What readWord, read and fills answer.
  Conditions: a text shorter than 4294967281 bytes.
-/
import Derived.Test.YtfaaogidbpfelaaDoorTxtC
namespace Go.Proofs.YtfaaogidbpfelaaDoor.Tx
open Go.RowKit

theorem indexByte_mem (s : Str) (c : UInt8) : (0 ≤ Lib.indexByte s c) = (c ∈ s) := by
  induction s with
  | nil => simp [Lib.indexByte]
  | cons x r ih =>
    rw [Lib.indexByte]
    by_cases e : x = c
    · simp [e]
    · have e' : ¬ c = x := fun h => e h.symm
      simp only [beq_iff_eq, e, if_false, List.mem_cons, e', false_or]
      rw [← ih]
      by_cases h : Lib.indexByte r c = -1
      · simp [h]
      · simp only [h, if_false]
        apply propext
        constructor
        · intro h1; omega
        · intro h1; omega
theorem contains_any (s : Str) (c : UInt8) (w : World) {z : Bool} (h : decide (c ∈ s) = z) : Calls Tryd.prog 40 #[.string (bs s), .string ⟨#[c]⟩] w fun e w' => e = .returned (.bool z) ∧ w = w' := by
  have := Tryd.strings_Contains_one (bs s) c w
  rw [bs_data] at this
  rw [← h]
  simp only [indexByte_mem] at this
  exact this.mono fun e w' ⟨h1, h2⟩ => ⟨h1, h2.symm⟩

theorem num_lt {s : Str} {v : Nat} (h : num 16 4 s = some v) : v < 65536 := by
  have key : ∀ (r : Str) (n : Nat), numF 16 n r = some v → v < (n + 1) * 16 ^ r.length := by
    intro r
    induction r with
    | nil => intro n h; simp [numF] at h; simp; omega
    | cons b r ih =>
      intro n h
      rw [numF] at h
      split at h
      · have := ih _ h
        simp only [List.length_cons, Nat.pow_succ]
        have h2 : (n * 16 + dig b + 1) * 16 ^ r.length ≤ ((n + 1) * 16) * 16 ^ r.length := Nat.mul_le_mul_right _ (by omega)
        have h3 : (n + 1) * 16 * 16 ^ r.length = (n + 1) * (16 ^ r.length * 16) := by rw [Nat.mul_assoc, Nat.mul_comm 16]
        omega
      · cases h
  unfold num at h
  split at h
  · cases h
  · rename_i hn
    have := key s 0 h
    have hl : s.length ≤ 4 := by
      apply Nat.le_of_not_lt
      exact fun h => hn (Or.inr h)
    have h2 := Nat.pow_le_pow_right (n := 16) (by omega) hl
    omega

set_option maxRecDepth 100000 in
theorem readWord_any (s : Str) (last : Bool) (w : World) (hs : s.length < 4294967281) (hm : Mx w) : Calls Tryd.prog 31 #[.string (bs s), .bool last] w (GivesG w (wordR s last)) := by
  have K0 := veil (contains_any s 46 w rfl)
  have K1 := veil (decimals_any s w hs hm)
  have K2 := veil (number16_any s w)
  clear hm
  by_cases hd : last = true ∧ 46 ∈ s
  · obtain ⟨rfl, hd⟩ := hd
    have e : wordR s true = fours s := by unfold wordR; rw [if_pos ⟨rfl, hd⟩]
    rw [e]
    rw [decide_eq_true hd] at K0
    clear e hd K2
    go_enter Tryd.func31, Tryd.ntmps31
    go_wp2_with fail
    refine (K0.out).mono ?_
    rintro e w1 ⟨rfl, rfl⟩
    go_wp2_with fail
    refine (K1.out).mono ?_
    rintro e w2 ⟨A, m, c, rfl, rfl, hO, hB⟩
    have hO := veil hO
    have hB := veil hB
    go_wp2_with fail
    go_ret2
    exact ⟨A, _, c, rfl, rfl, hO.out, hB.out⟩
  · have e : wordR s last = (num 16 4 s).map fun v => [v] := by unfold wordR; rw [if_neg hd]
    rw [e]
    clear e K1
    cases last with
    | true =>
      have hd : ¬ (46 : UInt8) ∈ s := fun h => hd ⟨rfl, h⟩
      rw [decide_eq_false hd] at K0
      clear hd
      cases ho : num 16 4 s with
      | none =>
        rw [ho] at K2
        clear ho
        go_enter Tryd.func31, Tryd.ntmps31
        go_wp2_with fail
        refine (K0.out).mono ?_
        rintro e w0 ⟨rfl, rfl⟩
        go_wp2_with fail
        refine (K2.out).mono ?_
        rintro e w1 ⟨rfl, hb⟩
        have hb := veil hb
        unfold nres
        go_wp2_with fail
        go_ret2
        exact gives_none hb.out
      | some v =>
        rw [ho] at K2
        have hv := num_lt ho
        have hv' : (v : Int) < 65536 := by omega
        clear ho hv
        go_enter Tryd.func31, Tryd.ntmps31
        go_wp2_with fail
        refine (K0.out).mono ?_
        rintro e w0 ⟨rfl, rfl⟩
        go_wp2_with fail
        refine (K2.out).mono ?_
        rintro e w1 ⟨rfl, hb⟩
        have hO := veil (own16 w1 (base := w.heap.size) [v] hb.size (by simp [maxLen]))
        have hb := veil (hb.alloc hb.size (.cells (W16.bv (ints [v])).toArray 36))
        have e1 : (W16.bv (ints [v])).toArray = #[.int .u16 v] := rfl
        rw [e1] at hO hb
        clear e1
        unfold nres
        go_wp2_with fail
        go_ret2
        exact ⟨_, 1, 1, rfl, rfl, hO.out, hb.out⟩
    | false =>
      clear hd K0
      cases ho : num 16 4 s with
      | none =>
        rw [ho] at K2
        clear ho
        go_enter Tryd.func31, Tryd.ntmps31
        go_wp2_with fail
        refine (K2.out).mono ?_
        rintro e w1 ⟨rfl, hb⟩
        have hb := veil hb
        unfold nres
        go_wp2_with fail
        go_ret2
        exact gives_none hb.out
      | some v =>
        rw [ho] at K2
        have hv := num_lt ho
        have hv' : (v : Int) < 65536 := by omega
        clear ho hv
        go_enter Tryd.func31, Tryd.ntmps31
        go_wp2_with fail
        refine (K2.out).mono ?_
        rintro e w1 ⟨rfl, hb⟩
        have hO := veil (own16 w1 (base := w.heap.size) [v] hb.size (by simp [maxLen]))
        have hb := veil (hb.alloc hb.size (.cells (W16.bv (ints [v])).toArray 36))
        have e1 : (W16.bv (ints [v])).toArray = #[.int .u16 v] := rfl
        rw [e1] at hO hb
        clear e1
        unfold nres
        go_wp2_with fail
        go_ret2
        exact ⟨_, 1, 1, rfl, rfl, hO.out, hb.out⟩

/-- a side of a text, word by word -/
def rd (last : Bool) : Nat → List Nat → Str → Option (List Nat)
  | 0, _, _ => none
  | k + 1, gs, t => match wordR (Lib.cut t [58]).1 (last && !(Lib.cut t [58]).2.2) with
    | none => none
    | some l => if (Lib.cut t [58]).2.2 = true then rd last k (gs ++ l) (Lib.cut t [58]).2.1 else some (gs ++ l)
/-- a side of a text, if it has no more than eight words -/
def readL (s : Str) (last : Bool) : Option (List Nat) := if s = [] then some [] else if (words 58 s).length ≤ 8 then side last (words 58 s) else none
theorem rd_eq (last : Bool) : ∀ (k : Nat) (gs : List Nat) (t : Str), rd last k gs t = if (words 58 t).length ≤ k then (side last (words 58 t)).map (gs ++ ·) else none
  | 0, gs, t => by
    have := words_ne 58 t
    rw [if_neg (by intro h; exact this (List.eq_nil_of_length_eq_zero (by omega))), rd]
  | k + 1, gs, t => by
    rw [rd]
    by_cases h : (58 : UInt8) ∈ t
    · obtain ⟨a, b, rfl, ha⟩ := split_at h
      rw [cut_yes ha, words_app ha]
      have hw : wordR a false = (num 16 4 a).map fun v => [v] := by unfold wordR; simp
      have hne := words_ne 58 b
      cases hb : words 58 b with
      | nil => exact absurd hb hne
      | cons x r =>
        simp only [Bool.not_true, Bool.and_false, hw, side_cons]
        have ih := fun gs => rd_eq last k gs b
        rw [hb] at ih
        cases num 16 4 a with
        | none => simp
        | some v =>
          simp only [if_true, ih, Option.map_some]
          by_cases hl : (x :: r).length ≤ k
          · rw [if_pos hl, if_pos (by simp at hl ⊢; omega)]
            cases side last (x :: r) <;> simp
          · rw [if_neg hl, if_neg (by simp at hl ⊢; omega)]
    · rw [cut_no h, words_none h]
      simp only [Bool.not_false, Bool.and_true]
      rw [if_pos (by simp)]
      show _ = (wordR t last).map (gs ++ ·)
      cases wordR t last <;> simp
theorem readL_eq {s : Str} (h : s ≠ []) (last : Bool) : readL s last = rd last 8 [] s := by
  rw [rd_eq, readL, if_neg h]
  cases side last (words 58 s) <;> simp
theorem wordR_one {s : Str} {l : List Nat} (h : wordR s false = some l) : ∃ v, l = [v] := by
  unfold wordR at h
  simp at h
  obtain ⟨v, _, h⟩ := h
  exact ⟨v, h.symm⟩
theorem wordR_len {s : Str} {last : Bool} {l : List Nat} (h : wordR s last = some l) : 1 ≤ l.length ∧ l.length ≤ 2 := by
  unfold wordR at h
  split at h
  · unfold fours at h
    split at h
    · split at h
      · injection h with h; subst h; simp
      · cases h
    · cases h
  · simp at h
    obtain ⟨v, _, rfl⟩ := h
    simp
def rdMeas : Value → Value → Nat
  | .slice _ n _, .bool true => 9 - n
  | _, _ => 0
theorem own_slice {w : World} {base : Nat} {v : Value} {xs : List Int} (h : W16.Own w base v xs) : ∃ A c, v = .slice A xs.length c := by
  obtain ⟨A, c, e, _, _⟩ := h.slc.slice
  exact ⟨A, c, e⟩
theorem ints_app (a b : List Nat) : ints (a ++ b) = ints a ++ ints b := by simp [ints]

/-- how far the side is read -/
def RdAt (last : Bool) (s : Str) (m : Bool) (gs : List Nat) (t : Str) : Prop := if m = true then ∃ k, gs.length + k = 8 ∧ rd last k gs t = readL s last else readL s last = some gs

set_option maxRecDepth 100000 in
set_option maxHeartbeats 2000000 in
theorem read_any (s : Str) (last : Bool) (w : World) (hs : s.length < 4294967281) (hm : Mx w) : Calls Tryd.prog 23 #[.string (bs s), .bool last] w (GivesG w (readL s last)) := by
  have HM := veil hm
  clear hm
  obtain ⟨z, hz⟩ : ∃ z, (bs s).toList.isEmpty = z := ⟨_, rfl⟩
  have HZ : Hid (RdAt last s (!z) [] s) := by
    unfold Hid RdAt
    rw [bs_list] at hz
    cases s with
    | nil => subst hz; rfl
    | cons x r => subst hz; exact ⟨8, rfl, (readL_eq (by simp) last).symm⟩
  go_enter Tryd.func23, Tryd.ntmps23
  go_wp2_with fail
  clear hz
  go_loopw [0, 4, 6] (fun u v m wr => ∃ (t : Str) (gs : List Nat) (A : Option Addr) (n c : Nat) (b : Bool), u = .string (bs t) ∧ v = .slice A n c ∧ m = .bool b ∧ n ≤ 1000 ∧ Hid (gs.length = n ∧ t.length < 4294967281 ∧ RdAt last s b gs t ∧ Below w.heap.size w wr ∧ W16.Own wr w.heap.size (.slice A n c) (ints gs))) (fun _ v m _ => rdMeas v m)
  case atStart => exact ⟨s, [], none, 0, 0, !z, rfl, rfl, rfl, by omega, rfl, hs, HZ.out, Below.refl _ _, W16.own_nil _ _⟩
  case round =>
    obtain ⟨t, gs, A, n, c, b, rfl, rfl, rfl, hn1, hH⟩ := hrel
    cases b with
    | false =>
      obtain ⟨hn, ht, hR, hB, hO⟩ := hH.out
      have hR' : readL s last = some gs := hR
      have HR := veil hR'
      have HB := veil hB
      have HO := veil hO
      clear hR hR' hB hO hH HZ
      go_wp2_with fail
      go_ret2
      rw [HR.out]
      exact ⟨A, n, c, rfl, hn.symm, HO.out, HB.out⟩
    | true =>
      obtain ⟨hn, ht, hR, hB, hO⟩ := hH.out
      obtain ⟨k, hk, hR⟩ := (show ∃ k, gs.length + k = 8 ∧ rd last k gs t = readL s last from hR)
      have HB := veil hB
      have HO := veil hO
      have HMr := veil (HM.out.keep hB)
      clear hB hO hH HZ
      cases k with
      | zero =>
        have HR := veil (show readL s last = none by rw [← hR, rd])
        have hn8 : (8 : Int) ≤ (n : Int) := by omega
        clear hR hk ht
        go_wp2_with fail
        go_ret2
        rw [HR.out]
        exact gives_none HB.out
      | succ k =>
        have hn8 : (n : Int) < 8 := by omega
        obtain ⟨one, rest, more, hc⟩ : ∃ one rest more, Lib.cut t [58] = (one, rest, more) := ⟨_, _, _, rfl⟩
        have hl := cut_len hc
        have K1 := veil (cut_any t [58] wr ht HMr.out hc)
        have e1 : bs [58] = ⟨#[58]⟩ := rfl
        rw [e1] at K1
        have K2 := veil (fun v l (h : Mx v) => readWord_any one l v (by omega) h)
        have HR := veil (show readL s last = match wordR one (last && !more) with | none => none | some l => if more = true then rd last k (gs ++ l) rest else some (gs ++ l) by rw [← hR, rd, hc])
        have HL := veil (show rest.length < 4294967281 by omega)
        clear hR hc e1 hl ht
        go_wp2_with fail
        refine (K1.out).mono ?_
        rintro e w1 ⟨rfl, q, rfl⟩
        clear K1
        have HB := veil (below_still HB.out ⟨q, rfl⟩)
        have HO : Hid (W16.Own (wr.drewN q) w.heap.size (.slice A n c) (ints gs)) := HO
        have HMr : Hid (Mx (wr.drewN q)) := HMr
        generalize wr.drewN q = w1 at *
        obtain ⟨l2, hl2⟩ : ∃ l2, (last && !more) = l2 := ⟨_, rfl⟩
        cases last <;> cases more <;> (subst hl2)
        case false.false =>
          have HR : Hid (readL s _ = match wordR one false with | none => none | some l => if false = true then rd _ k (gs ++ l) rest else some (gs ++ l)) := HR
          go_wp2_with fail
          refine (K2.out w1 false HMr.out).mono ?_
          rintro e w2 ⟨A2, m2, c2, rfl, hm2, hO2, hB2⟩
          clear K2
          cases ho : wordR one false with
          | none =>
            rw [ho] at hm2 hO2 HR
            simp only at HR
            obtain rfl : m2 = 0 := hm2
            have HB := veil (HB.out.trans (hB2.mono HB.out.size))
            clear hO2 hB2 ho
            go_wp2_with fail
            go_ret2
            rw [HR.out]
            exact gives_none HB.out
          | some l =>
            have hll := wordR_len ho
            rw [ho] at hm2 hO2 HR
            simp only [Bool.false_eq_true, if_false] at HR
            replace hm2 : m2 = l.length := hm2
            replace hO2 : W16.Own w2 w1.heap.size (.slice A2 m2 c2) (ints l) := hO2
            have HO := veil (HO.out.keep hB2)
            have HB := veil (HB.out.trans (hB2.mono HB.out.size))
            obtain ⟨v3, w3, hrun, hO3, hg3, _⟩ := W16.run_append_slc w2 w.heap.size 46 (.slice A n c) (.slice A2 m2 c2) (ints gs) (ints l) HO.out hO2.slc (by rw [ints_len, ints_len]; omega) HB.out.size
            have HB := veil (W16.own_below HO.out hg3 HB.out HB.out.size)
            rw [← ints_app] at hO3
            obtain ⟨A3, c3, rfl⟩ := own_slice hO3
            rw [ints_len] at hrun hO3
            have HRUN := veil hrun
            have HO := veil hO3
            have hl3 : (gs ++ l).length = gs.length + l.length := List.length_append
            generalize hn3 : (gs ++ l).length = n3 at *
            have HN := veil (And.intro hn (And.intro hm2 (And.intro hn3 (And.intro hl3 (And.intro hll hk)))))
            clear hO2 hB2 ho hrun hO3 hg3 hn hm2 hn3 hl3 hll hk
            go_wp2_with (at_builtin; refine W16.wpList_append_run rfl (.tmp 34) (.tmp 35) rfl rfl rfl HRUN.out ?_)
            go_roundw
            case rel =>
              obtain ⟨hn, hm2, hn3, hl3, hll, hk⟩ := HN.out
              exact ⟨rest, gs ++ l, A3, n3, c3, false, rfl, rfl, rfl, by omega, hn3, HL.out, HR.out, HB.out, HO.out⟩
            case measure =>
              obtain ⟨hn, hm2, hn3, hl3, hll, hk⟩ := HN.out
              show 0 < 9 - n; omega
        case false.true =>
          have HR : Hid (readL s _ = match wordR one false with | none => none | some l => if true = true then rd _ k (gs ++ l) rest else some (gs ++ l)) := HR
          go_wp2_with fail
          refine (K2.out w1 false HMr.out).mono ?_
          rintro e w2 ⟨A2, m2, c2, rfl, hm2, hO2, hB2⟩
          clear K2
          cases ho : wordR one false with
          | none =>
            rw [ho] at hm2 hO2 HR
            simp only at HR
            obtain rfl : m2 = 0 := hm2
            have HB := veil (HB.out.trans (hB2.mono HB.out.size))
            clear hO2 hB2 ho
            go_wp2_with fail
            go_ret2
            rw [HR.out]
            exact gives_none HB.out
          | some l =>
            have hll := wordR_len ho
            have hl1 : l.length = 1 := by
              obtain ⟨v1, e⟩ := wordR_one ho
              rw [e]; rfl
            rw [ho] at hm2 hO2 HR
            simp only [if_true] at HR
            replace hm2 : m2 = l.length := hm2
            replace hO2 : W16.Own w2 w1.heap.size (.slice A2 m2 c2) (ints l) := hO2
            have HO := veil (HO.out.keep hB2)
            have HB := veil (HB.out.trans (hB2.mono HB.out.size))
            obtain ⟨v3, w3, hrun, hO3, hg3, _⟩ := W16.run_append_slc w2 w.heap.size 46 (.slice A n c) (.slice A2 m2 c2) (ints gs) (ints l) HO.out hO2.slc (by rw [ints_len, ints_len]; omega) HB.out.size
            have HB := veil (W16.own_below HO.out hg3 HB.out HB.out.size)
            rw [← ints_app] at hO3
            obtain ⟨A3, c3, rfl⟩ := own_slice hO3
            rw [ints_len] at hrun hO3
            have HRUN := veil hrun
            have HO := veil hO3
            have hl3 : (gs ++ l).length = gs.length + l.length := List.length_append
            generalize hn3 : (gs ++ l).length = n3 at *
            have HN := veil (And.intro hn (And.intro hm2 (And.intro hn3 (And.intro hl3 (And.intro hl1 hk)))))
            clear hO2 hB2 ho hrun hO3 hg3 hn hm2 hn3 hl3 hll hl1 hk
            go_wp2_with (at_builtin; refine W16.wpList_append_run rfl (.tmp 34) (.tmp 35) rfl rfl rfl HRUN.out ?_)
            go_roundw
            case rel =>
              obtain ⟨hn, hm2, hn3, hl3, hll, hk⟩ := HN.out
              exact ⟨rest, gs ++ l, A3, n3, c3, true, rfl, rfl, rfl, by omega, hn3, HL.out, ⟨k, by simp; omega, HR.out.symm⟩, HB.out, HO.out⟩
            case measure =>
              obtain ⟨hn, hm2, hn3, hl3, hll, hk⟩ := HN.out
              show 9 - n3 < 9 - n; omega
        case true.false =>
          have HR : Hid (readL s _ = match wordR one true with | none => none | some l => if false = true then rd _ k (gs ++ l) rest else some (gs ++ l)) := HR
          go_wp2_with fail
          refine (K2.out w1 true HMr.out).mono ?_
          rintro e w2 ⟨A2, m2, c2, rfl, hm2, hO2, hB2⟩
          clear K2
          cases ho : wordR one true with
          | none =>
            rw [ho] at hm2 hO2 HR
            simp only at HR
            obtain rfl : m2 = 0 := hm2
            have HB := veil (HB.out.trans (hB2.mono HB.out.size))
            clear hO2 hB2 ho
            go_wp2_with fail
            go_ret2
            rw [HR.out]
            exact gives_none HB.out
          | some l =>
            have hll := wordR_len ho
            rw [ho] at hm2 hO2 HR
            simp only [Bool.false_eq_true, if_false] at HR
            replace hm2 : m2 = l.length := hm2
            replace hO2 : W16.Own w2 w1.heap.size (.slice A2 m2 c2) (ints l) := hO2
            have HO := veil (HO.out.keep hB2)
            have HB := veil (HB.out.trans (hB2.mono HB.out.size))
            obtain ⟨v3, w3, hrun, hO3, hg3, _⟩ := W16.run_append_slc w2 w.heap.size 46 (.slice A n c) (.slice A2 m2 c2) (ints gs) (ints l) HO.out hO2.slc (by rw [ints_len, ints_len]; omega) HB.out.size
            have HB := veil (W16.own_below HO.out hg3 HB.out HB.out.size)
            rw [← ints_app] at hO3
            obtain ⟨A3, c3, rfl⟩ := own_slice hO3
            rw [ints_len] at hrun hO3
            have HRUN := veil hrun
            have HO := veil hO3
            have hl3 : (gs ++ l).length = gs.length + l.length := List.length_append
            generalize hn3 : (gs ++ l).length = n3 at *
            have HN := veil (And.intro hn (And.intro hm2 (And.intro hn3 (And.intro hl3 (And.intro hll hk)))))
            clear hO2 hB2 ho hrun hO3 hg3 hn hm2 hn3 hl3 hll hk
            go_wp2_with (at_builtin; refine W16.wpList_append_run rfl (.tmp 34) (.tmp 35) rfl rfl rfl HRUN.out ?_)
            go_roundw
            case rel =>
              obtain ⟨hn, hm2, hn3, hl3, hll, hk⟩ := HN.out
              exact ⟨rest, gs ++ l, A3, n3, c3, false, rfl, rfl, rfl, by omega, hn3, HL.out, HR.out, HB.out, HO.out⟩
            case measure =>
              obtain ⟨hn, hm2, hn3, hl3, hll, hk⟩ := HN.out
              show 0 < 9 - n; omega
        case true.true =>
          have HR : Hid (readL s _ = match wordR one false with | none => none | some l => if true = true then rd _ k (gs ++ l) rest else some (gs ++ l)) := HR
          go_wp2_with fail
          refine (K2.out w1 false HMr.out).mono ?_
          rintro e w2 ⟨A2, m2, c2, rfl, hm2, hO2, hB2⟩
          clear K2
          cases ho : wordR one false with
          | none =>
            rw [ho] at hm2 hO2 HR
            simp only at HR
            obtain rfl : m2 = 0 := hm2
            have HB := veil (HB.out.trans (hB2.mono HB.out.size))
            clear hO2 hB2 ho
            go_wp2_with fail
            go_ret2
            rw [HR.out]
            exact gives_none HB.out
          | some l =>
            have hll := wordR_len ho
            have hl1 : l.length = 1 := by
              obtain ⟨v1, e⟩ := wordR_one ho
              rw [e]; rfl
            rw [ho] at hm2 hO2 HR
            simp only [if_true] at HR
            replace hm2 : m2 = l.length := hm2
            replace hO2 : W16.Own w2 w1.heap.size (.slice A2 m2 c2) (ints l) := hO2
            have HO := veil (HO.out.keep hB2)
            have HB := veil (HB.out.trans (hB2.mono HB.out.size))
            obtain ⟨v3, w3, hrun, hO3, hg3, _⟩ := W16.run_append_slc w2 w.heap.size 46 (.slice A n c) (.slice A2 m2 c2) (ints gs) (ints l) HO.out hO2.slc (by rw [ints_len, ints_len]; omega) HB.out.size
            have HB := veil (W16.own_below HO.out hg3 HB.out HB.out.size)
            rw [← ints_app] at hO3
            obtain ⟨A3, c3, rfl⟩ := own_slice hO3
            rw [ints_len] at hrun hO3
            have HRUN := veil hrun
            have HO := veil hO3
            have hl3 : (gs ++ l).length = gs.length + l.length := List.length_append
            generalize hn3 : (gs ++ l).length = n3 at *
            have HN := veil (And.intro hn (And.intro hm2 (And.intro hn3 (And.intro hl3 (And.intro hl1 hk)))))
            clear hO2 hB2 ho hrun hO3 hg3 hn hm2 hn3 hl3 hll hl1 hk
            go_wp2_with (at_builtin; refine W16.wpList_append_run rfl (.tmp 34) (.tmp 35) rfl rfl rfl HRUN.out ?_)
            go_roundw
            case rel =>
              obtain ⟨hn, hm2, hn3, hl3, hll, hk⟩ := HN.out
              exact ⟨rest, gs ++ l, A3, n3, c3, true, rfl, rfl, rfl, by omega, hn3, HL.out, ⟨k, by simp; omega, HR.out.symm⟩, HB.out, HO.out⟩
            case measure =>
              obtain ⟨hn, hm2, hn3, hl3, hll, hk⟩ := HN.out
              show 9 - n3 < 9 - n; omega
end Go.Proofs.YtfaaogidbpfelaaDoor.Tx
