/-
  The reference's Get, its parts: value, number, split, four.
  Conditions: texts of at most 1000 bytes.
-/
import Derived.Test.YtfaaogidbpfelaaDoorTxtR
namespace Go.Proofs.YtfaaogidbpfelaaDoor.Tx
open Go.RowKit Ad

/-- a digit's number; below 0: it is none -/
def valI (b : UInt8) : Int := if dig b < 16 then (dig b : Int) else -1
set_option maxRecDepth 100000 in
theorem value_any (b : UInt8) (w : World) : Calls Tryd.prog 43 #[.int .u8 (b.toNat : Int)] w fun e w' => e = .returned (.int .i64 (valI b)) ∧ w = w' := by
  have hlt : b.toNat < 256 := b.toNat_lt
  have hv : valI b = if 48 ≤ b.toNat ∧ b.toNat ≤ 57 then (b.toNat : Int) - 48 else if 97 ≤ b.toNat ∧ b.toNat ≤ 102 then (b.toNat : Int) - 87 else if 65 ≤ b.toNat ∧ b.toNat ≤ 70 then (b.toNat : Int) - 55 else -1 := by
    unfold valI dig
    repeat' split
    all_goals omega
  have HV := veil hv
  clear hv
  generalize valI b = V at *
  generalize b.toNat = c at *
  have hc : (c : Int) < 256 := by omega
  have H := veil hlt
  clear hlt
  go_enter Tryd.func43, Tryd.ntmps43
  go_wp2_with fail
  all_goals
    go_ret
    refine ⟨?_, rfl⟩
    show Ending.returned (Value.int IntKind.i64 _) = _
    congr 2
    rw [HV.out]
    have h : c < 256 := H.out
    repeat' split
    all_goals omega

/-- a number, or -1 -/
def nI (o : Option Nat) : Int := match o with
  | some v => v
  | none => -1
theorem valI_yes {b : UInt8} {base : Nat} (hb : base ≤ 16) (h : dig b < base) : valI b = (dig b : Int) := by unfold valI; rw [if_pos (by omega)]
theorem valI_no {b : UInt8} {base : Nat} (h : ¬ dig b < base) : valI b < 0 ∨ (base : Int) ≤ valI b := by
  unfold valI
  split
  · right; omega
  · left; omega

set_option maxRecDepth 100000 in
set_option maxHeartbeats 1000000 in
theorem rnumber_any (base most : Nat) (hbm : (base = 16 ∧ most = 4) ∨ (base = 10 ∧ most = 3)) (s : Str) (w : World) (hs : s.length ≤ 1000) : Calls Tryd.prog 33 #[.string (bs s), .int .i64 base, .int .i64 most] w fun e w' => e = .returned (.int .i64 (nI (num base most s))) ∧ w = w' := by
  have hsz := bs_size s
  obtain ⟨n, hn⟩ : ∃ n, s.length = n := ⟨_, rfl⟩
  rw [hn] at hsz hs
  have HN := veil hn
  have hs' : (n : Int) ≤ 1000 := by omega
  by_cases h0 : n < 1
  · have hnum : num base most s = none := by unfold num; rw [if_pos (Or.inl (List.eq_nil_of_length_eq_zero (by omega)))]
    rw [hnum]
    have h1 : (n : Int) < 1 := by omega
    clear hnum hn hbm
    go_enter Tryd.func33, Tryd.ntmps33
    go_wp2_with fail
    go_ret
    exact ⟨rfl, rfl⟩
  · have h1 : ¬ (n : Int) < 1 := by omega
    by_cases h2 : most < n
    · have hnum : num base most s = none := by unfold num; rw [if_pos (Or.inr (by omega))]
      rw [hnum]
      have h3 : (most : Int) < (n : Int) := by omega
      clear hnum hn hbm
      go_enter Tryd.func33, Tryd.ntmps33
      go_wp2_with fail
      go_ret
      exact ⟨rfl, rfl⟩
    · have HNum : Hid (num base most s = numF base 0 s) := by
        unfold Hid num
        rw [if_neg]
        rintro (h | h)
        · subst h; simp at hn; omega
        · omega
      have h3 : ¬ (most : Int) < (n : Int) := by omega
      have hn4 : n ≤ 4 := by omega
      have hb16 : base ≤ 16 := by omega
      generalize num base most s = R at *
      clear hn hs' hs
      go_enter Tryd.func33, Tryd.ntmps33
      go_wp2_with fail
      clear h1 h3
      go_loopw [7, 8] (fun a i wx => ∃ (j acc : Nat), j ≤ n ∧ a = .int .i64 acc ∧ i = .int .i64 j ∧ acc < 16 ^ j ∧ Hid (numF base acc (s.drop j) = R) ∧ w = wx) (fun _ i _ => n - (intOf i).toNat)
      case atStart => exact ⟨0, 0, by omega, rfl, rfl, by decide, HNum.out.symm, rfl⟩
      case round =>
        clear HNum
        obtain ⟨j, acc, hj, rfl, rfl, hacc, hR, rfl⟩ := hrel
        by_cases hlt : j < n
        · have hix := fun u => index_str s (i := j) (by rw [HN.out]; exact hlt) u
          have hdr : s.drop j = s.getD j 0 :: s.drop (j + 1) := by
            rw [List.drop_eq_getElem_cons (by rw [HN.out]; exact hlt)]
            simp only [List.getD, List.getElem?_eq_getElem (show j < s.length by rw [HN.out]; exact hlt), Option.getD_some]
          have hpw : (16 : Nat) ^ j ≤ 4096 := by
            have := Nat.pow_le_pow_right (n := 16) (by omega) (show j ≤ 3 by omega)
            omega
          have hpw1 : (16 : Nat) ^ (j + 1) = 16 * 16 ^ j := by rw [Nat.pow_succ]; omega
          have K := veil (value_any (s.getD j 0) w)
          have hj' : (j : Int) < n := by omega
          by_cases hd : dig (s.getD j 0) < base
          · have HR2 : Hid (numF base (base * acc + dig (s.getD j 0)) (s.drop (j + 1)) = R) := by
              unfold Hid
              rw [← hR.out, hdr, numF, if_pos hd, Nat.mul_comm]
            rw [valI_yes hb16 hd] at K
            have hB : base * acc + dig (s.getD j 0) < 16 ^ (j + 1) := by
              have h16 : base * acc + dig (s.getD j 0) < base * (acc + 1) := by rw [Nat.mul_add]; omega
              have h17 : base * (acc + 1) ≤ 16 * (acc + 1) := Nat.mul_le_mul_right _ hb16
              omega
            generalize dig (s.getD j 0) = d at *
            generalize (s.getD j 0).toNat = x at *
            obtain ⟨y, hy⟩ : ∃ y, base * acc + d = y := ⟨_, rfl⟩
            obtain ⟨z, hz⟩ : ∃ z, base * acc = z := ⟨_, rfl⟩
            rw [hy] at HR2 hB
            have hy2 : y < 65536 := by omega
            have m1 : IntKind.i64.wrap ((base : Int) * (acc : Int)) = (z : Int) := by
              rw [IntWalk.i64_in _ (by rw [← Int.natCast_mul, hz]; omega), ← Int.natCast_mul, hz]
            have m2 : IntKind.i64.wrap ((z : Int) + (d : Int)) = (y : Int) := by rw [IntWalk.i64_in _ (by omega)]; omega
            have v1 : ¬ (d : Int) < 0 := by omega
            have v2 : ¬ (base : Int) ≤ (d : Int) := by omega
            have HB := veil hB
            clear hR hdr hpw hpw1 hacc hy hz hB hy2
            go_wp2_with fail
            refine (K.out).mono ?_
            rintro e w1 ⟨rfl, rfl⟩
            go_wp2_with fail
            go_roundw
            case rel => exact ⟨j + 1, y, by omega, rfl, by go_num, HB.out, HR2.out, by first | rfl | trivial⟩
            case measure => simp [intOf]; omega
          · have HR2 : Hid (R = none) := by
              unfold Hid
              rw [← hR.out, hdr, numF, if_neg hd]
            have hvn := valI_no hd
            generalize valI (s.getD j 0) = v at *
            generalize (s.getD j 0).toNat = x at *
            clear hR hdr hpw hpw1 hacc hd
            by_cases hv0 : v < 0
            · clear hvn
              go_wp2_with fail
              refine (K.out).mono ?_
              rintro e w1 ⟨rfl, rfl⟩
              go_wp2_with fail
              go_ret
              exact ⟨by rw [HR2.out]; rfl, rfl⟩
            · have hvb : (base : Int) ≤ v := hvn.resolve_left hv0
              clear hvn
              go_wp2_with fail
              refine (K.out).mono ?_
              rintro e w1 ⟨rfl, rfl⟩
              go_wp2_with fail
              go_ret
              exact ⟨by rw [HR2.out]; rfl, rfl⟩
        · have HR2 : Hid (R = some acc) := by
            unfold Hid
            rw [← hR.out, List.drop_of_length_le (by rw [HN.out]; omega), numF]
          have hj' : ¬ (j : Int) < n := by omega
          clear hR hacc
          go_wp2_with fail
          go_ret
          exact ⟨by rw [HR2.out]; rfl, rfl⟩
end Go.Proofs.YtfaaogidbpfelaaDoor.Tx
