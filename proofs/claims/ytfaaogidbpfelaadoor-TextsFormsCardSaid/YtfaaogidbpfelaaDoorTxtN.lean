/-
  What the law's digits and decimal answer: a group's four digits, small or capital ones; a byte's decimals.
  Conditions: none.
-/
import Derived.Test.YtfaaogidbpfelaaDoorTxtU
import Derived.Test.YtfaaogidbpfelaaDoorTxtR
namespace Go.Proofs.YtfaaogidbpfelaaDoor.Tx
open Go.RowKit

/-- the digits that are taken of -/
def allS (big : Bool) : Str := if big then [48, 49, 50, 51, 52, 53, 54, 55, 56, 57, 65, 66, 67, 68, 69, 70] else [48, 49, 50, 51, 52, 53, 54, 55, 56, 57, 97, 98, 99, 100, 101, 102]
theorem allS_cut : ∀ (b : Bool) (d : Fin 16), ((allS b).drop d.1).take 1 = [dgt b d.1] := by decide +kernel
theorem slice_one (s : Str) {d e : Nat} {c : UInt8} {k : IntKind} (he : d + 1 = e) (hs : e ≤ s.length) (hc : (s.drop d).take 1 = [c]) (u : World) : (Instr.sliceAt 9 (.string (bs s)) (some (.int k d)) (some (.int k e)) none).run Tryd.prog u = .ok (.string (bs [c])) u := by
  have h1 : (d : Int) ≤ (e : Int) := by omega
  have h3 : (e : Int) ≤ (s.length : Int) := by omega
  have h2 := bs_cut s d e
  rw [show e - d = 1 by omega, hc] at h2
  simp [Instr.sliceAt, run_underlying Tryd.underlying9, go_sem, bs_size, h1, h2, h3]
/-- four bits of a number -/
theorem nib {n : Nat} (h : n < 65536) : bits .and .u16 (n : Int) 15 = ((n % 16 : Nat) : Int) := by
  unfold bits
  have h2 : ((BitVec.ofInt IntKind.u16.bits (n : Int) &&& BitVec.ofInt IntKind.u16.bits (15 : Int)).toNat) = n % 16 := by
    rw [show (15 : Int) = ((15 : Nat) : Int) from rfl, BitVec.ofInt_natCast, BitVec.ofInt_natCast, BitVec.toNat_and, BitVec.toNat_ofNat, BitVec.toNat_ofNat, Nat.mod_eq_of_lt (by show _ < 2 ^ 16; omega), Nat.mod_eq_of_lt (by show _ < 2 ^ 16; omega)]
    exact Nat.and_two_pow_sub_one_eq_mod n 4
  simp only
  rw [h2, IntKind.wrap_u16]
  omega

set_option maxRecDepth 100000 in
set_option maxHeartbeats 2000000 in
theorem lawDigits_any (n : Nat) (b : Bool) (w : World) (hn : n < 65536) : Calls Tryd.prog 14 #[.int .u16 n, .bool b] w fun e w' => e = .returned (.string (bs (dig4 b n))) ∧ w = w' := by
  have HN := veil hn
  clear hn
  cases b with
  | true =>
    go_enter Tryd.func14, Tryd.ntmps14
    go_wp2_with fail
    go_loopw [6, 7] (fun s i wr => ∃ (j : Nat) (k : Int), j ≤ 4 ∧ k = 12 - 4 * (j : Int) ∧ s = .string (bs ((dig4 true n).take j)) ∧ i = .int .i64 k ∧ w = wr) (fun _ i _ => (intOf i + 4).toNat)
    case atStart => exact ⟨0, 12, by omega, by omega, rfl, rfl, rfl⟩
    case round =>
      obtain ⟨j, k, hj, hkj, rfl, rfl, rfl⟩ := hrel
      have hc : j = 0 ∨ j = 1 ∨ j = 2 ∨ j = 3 ∨ j = 4 := by omega
      rcases hc with rfl | rfl | rfl | rfl | rfl
      · obtain rfl : k = 12 := by omega
        obtain ⟨d, hd⟩ : ∃ d, n / 4096 % 16 = d := ⟨_, rfl⟩
        have hd16 : d < 16 := by omega
        have e1 : bits .and .u16 ((n : Int) / 4096) 15 = (d : Int) := by
          have h1 := nib (n := n / 4096) (by have := HN.out; omega)
          rw [hd] at h1
          rw [← h1]
          congr 1
        obtain ⟨m, hm⟩ : ∃ m, d + 1 = m := ⟨_, rfl⟩
        have e2 : IntKind.u16.wrap ((d : Int) + 1) = (m : Int) := by rw [IntKind.wrap_u16]; omega
        have hsl : ∀ u, (Instr.sliceAt 9 (.string ⟨#[48, 49, 50, 51, 52, 53, 54, 55, 56, 57, 65, 66, 67, 68, 69, 70]⟩) (some (.int .u16 d)) (some (.int .u16 m)) none).run Tryd.prog u = .ok (.string (bs [dgt true d])) u := fun u => slice_one (allS true) hm (by show m ≤ 16; omega) (allS_cut true ⟨d, hd16⟩) u
        obtain ⟨S, hS⟩ : ∃ S, (dig4 true n).take 0 = S := ⟨_, rfl⟩
        obtain ⟨S2, hS2⟩ : ∃ S2, (dig4 true n).take 1 = S2 := ⟨_, rfl⟩
        obtain ⟨c, hc⟩ : ∃ c, dgt true d = c := ⟨_, rfl⟩
        have HS : Hid (S ++ [c] = S2) := by
          unfold Hid
          rw [← hS, ← hS2, ← hc, ← hd]
          rfl
        have Z : Hid (Fits S [c]) := by
          unfold Hid Fits
          have : S.length ≤ 4 := by rw [← hS]; simp [dig4]
          simp; omega
        have HS2 := veil hS2
        rw [hS]
        rw [hc] at hsl
        clear hd hS hS2 hd16 hm hc hkj hj
        go_wp2_with (refine wpList_add_as S [c] HS.out rfl _ _ rfl rfl rfl Z.out ?_)
        go_roundw
        case rel => exact ⟨1, 8, by omega, by omega, by rw [HS2.out], by go_num, trivial⟩
        case measure => simp [intOf]
      · obtain rfl : k = 8 := by omega
        obtain ⟨d, hd⟩ : ∃ d, n / 256 % 16 = d := ⟨_, rfl⟩
        have hd16 : d < 16 := by omega
        have e1 : bits .and .u16 ((n : Int) / 256) 15 = (d : Int) := by
          have h1 := nib (n := n / 256) (by have := HN.out; omega)
          rw [hd] at h1
          rw [← h1]
          congr 1
        obtain ⟨m, hm⟩ : ∃ m, d + 1 = m := ⟨_, rfl⟩
        have e2 : IntKind.u16.wrap ((d : Int) + 1) = (m : Int) := by rw [IntKind.wrap_u16]; omega
        have hsl : ∀ u, (Instr.sliceAt 9 (.string ⟨#[48, 49, 50, 51, 52, 53, 54, 55, 56, 57, 65, 66, 67, 68, 69, 70]⟩) (some (.int .u16 d)) (some (.int .u16 m)) none).run Tryd.prog u = .ok (.string (bs [dgt true d])) u := fun u => slice_one (allS true) hm (by show m ≤ 16; omega) (allS_cut true ⟨d, hd16⟩) u
        obtain ⟨S, hS⟩ : ∃ S, (dig4 true n).take 1 = S := ⟨_, rfl⟩
        obtain ⟨S2, hS2⟩ : ∃ S2, (dig4 true n).take 2 = S2 := ⟨_, rfl⟩
        obtain ⟨c, hc⟩ : ∃ c, dgt true d = c := ⟨_, rfl⟩
        have HS : Hid (S ++ [c] = S2) := by
          unfold Hid
          rw [← hS, ← hS2, ← hc, ← hd]
          rfl
        have Z : Hid (Fits S [c]) := by
          unfold Hid Fits
          have : S.length ≤ 4 := by rw [← hS]; simp [dig4]
          simp; omega
        have HS2 := veil hS2
        rw [hS]
        rw [hc] at hsl
        clear hd hS hS2 hd16 hm hc hkj hj
        go_wp2_with (refine wpList_add_as S [c] HS.out rfl _ _ rfl rfl rfl Z.out ?_)
        go_roundw
        case rel => exact ⟨2, 4, by omega, by omega, by rw [HS2.out], by go_num, trivial⟩
        case measure => simp [intOf]
      · obtain rfl : k = 4 := by omega
        obtain ⟨d, hd⟩ : ∃ d, n / 16 % 16 = d := ⟨_, rfl⟩
        have hd16 : d < 16 := by omega
        have e1 : bits .and .u16 ((n : Int) / 16) 15 = (d : Int) := by
          have h1 := nib (n := n / 16) (by have := HN.out; omega)
          rw [hd] at h1
          rw [← h1]
          congr 1
        obtain ⟨m, hm⟩ : ∃ m, d + 1 = m := ⟨_, rfl⟩
        have e2 : IntKind.u16.wrap ((d : Int) + 1) = (m : Int) := by rw [IntKind.wrap_u16]; omega
        have hsl : ∀ u, (Instr.sliceAt 9 (.string ⟨#[48, 49, 50, 51, 52, 53, 54, 55, 56, 57, 65, 66, 67, 68, 69, 70]⟩) (some (.int .u16 d)) (some (.int .u16 m)) none).run Tryd.prog u = .ok (.string (bs [dgt true d])) u := fun u => slice_one (allS true) hm (by show m ≤ 16; omega) (allS_cut true ⟨d, hd16⟩) u
        obtain ⟨S, hS⟩ : ∃ S, (dig4 true n).take 2 = S := ⟨_, rfl⟩
        obtain ⟨S2, hS2⟩ : ∃ S2, (dig4 true n).take 3 = S2 := ⟨_, rfl⟩
        obtain ⟨c, hc⟩ : ∃ c, dgt true d = c := ⟨_, rfl⟩
        have HS : Hid (S ++ [c] = S2) := by
          unfold Hid
          rw [← hS, ← hS2, ← hc, ← hd]
          rfl
        have Z : Hid (Fits S [c]) := by
          unfold Hid Fits
          have : S.length ≤ 4 := by rw [← hS]; simp [dig4]
          simp; omega
        have HS2 := veil hS2
        rw [hS]
        rw [hc] at hsl
        clear hd hS hS2 hd16 hm hc hkj hj
        go_wp2_with (refine wpList_add_as S [c] HS.out rfl _ _ rfl rfl rfl Z.out ?_)
        go_roundw
        case rel => exact ⟨3, 0, by omega, by omega, by rw [HS2.out], by go_num, trivial⟩
        case measure => simp [intOf]
      · obtain rfl : k = 0 := by omega
        obtain ⟨d, hd⟩ : ∃ d, n % 16 = d := ⟨_, rfl⟩
        have hd16 : d < 16 := by omega
        have e1 : bits .and .u16 (n : Int) 15 = (d : Int) := by
          have h1 := nib (n := n) (by have := HN.out; omega)
          rw [hd] at h1
          rw [← h1]
          try rfl
        obtain ⟨m, hm⟩ : ∃ m, d + 1 = m := ⟨_, rfl⟩
        have e2 : IntKind.u16.wrap ((d : Int) + 1) = (m : Int) := by rw [IntKind.wrap_u16]; omega
        have hsl : ∀ u, (Instr.sliceAt 9 (.string ⟨#[48, 49, 50, 51, 52, 53, 54, 55, 56, 57, 65, 66, 67, 68, 69, 70]⟩) (some (.int .u16 d)) (some (.int .u16 m)) none).run Tryd.prog u = .ok (.string (bs [dgt true d])) u := fun u => slice_one (allS true) hm (by show m ≤ 16; omega) (allS_cut true ⟨d, hd16⟩) u
        obtain ⟨S, hS⟩ : ∃ S, (dig4 true n).take 3 = S := ⟨_, rfl⟩
        obtain ⟨S2, hS2⟩ : ∃ S2, (dig4 true n).take 4 = S2 := ⟨_, rfl⟩
        obtain ⟨c, hc⟩ : ∃ c, dgt true d = c := ⟨_, rfl⟩
        have HS : Hid (S ++ [c] = S2) := by
          unfold Hid
          rw [← hS, ← hS2, ← hc, ← hd]
          rfl
        have Z : Hid (Fits S [c]) := by
          unfold Hid Fits
          have : S.length ≤ 4 := by rw [← hS]; simp [dig4]
          simp; omega
        have HS2 := veil hS2
        rw [hS]
        rw [hc] at hsl
        clear hd hS hS2 hd16 hm hc hkj hj
        go_wp2_with (refine wpList_add_as S [c] HS.out rfl _ _ rfl rfl rfl Z.out ?_)
        go_roundw
        case rel => exact ⟨4, -4, by omega, by omega, by rw [HS2.out], by go_num, trivial⟩
        case measure => simp [intOf]
      · obtain rfl : k = -4 := by omega
        go_wp2_with fail
        go_ret
        exact ⟨rfl, rfl⟩
  | false =>
    go_enter Tryd.func14, Tryd.ntmps14
    go_wp2_with fail
    go_loopw [6, 7] (fun s i wr => ∃ (j : Nat) (k : Int), j ≤ 4 ∧ k = 12 - 4 * (j : Int) ∧ s = .string (bs ((dig4 false n).take j)) ∧ i = .int .i64 k ∧ w = wr) (fun _ i _ => (intOf i + 4).toNat)
    case atStart => exact ⟨0, 12, by omega, by omega, rfl, rfl, rfl⟩
    case round =>
      obtain ⟨j, k, hj, hkj, rfl, rfl, rfl⟩ := hrel
      have hc : j = 0 ∨ j = 1 ∨ j = 2 ∨ j = 3 ∨ j = 4 := by omega
      rcases hc with rfl | rfl | rfl | rfl | rfl
      · obtain rfl : k = 12 := by omega
        obtain ⟨d, hd⟩ : ∃ d, n / 4096 % 16 = d := ⟨_, rfl⟩
        have hd16 : d < 16 := by omega
        have e1 : bits .and .u16 ((n : Int) / 4096) 15 = (d : Int) := by
          have h1 := nib (n := n / 4096) (by have := HN.out; omega)
          rw [hd] at h1
          rw [← h1]
          congr 1
        obtain ⟨m, hm⟩ : ∃ m, d + 1 = m := ⟨_, rfl⟩
        have e2 : IntKind.u16.wrap ((d : Int) + 1) = (m : Int) := by rw [IntKind.wrap_u16]; omega
        have hsl : ∀ u, (Instr.sliceAt 9 (.string ⟨#[48, 49, 50, 51, 52, 53, 54, 55, 56, 57, 97, 98, 99, 100, 101, 102]⟩) (some (.int .u16 d)) (some (.int .u16 m)) none).run Tryd.prog u = .ok (.string (bs [dgt false d])) u := fun u => slice_one (allS false) hm (by show m ≤ 16; omega) (allS_cut false ⟨d, hd16⟩) u
        obtain ⟨S, hS⟩ : ∃ S, (dig4 false n).take 0 = S := ⟨_, rfl⟩
        obtain ⟨S2, hS2⟩ : ∃ S2, (dig4 false n).take 1 = S2 := ⟨_, rfl⟩
        obtain ⟨c, hc⟩ : ∃ c, dgt false d = c := ⟨_, rfl⟩
        have HS : Hid (S ++ [c] = S2) := by
          unfold Hid
          rw [← hS, ← hS2, ← hc, ← hd]
          rfl
        have Z : Hid (Fits S [c]) := by
          unfold Hid Fits
          have : S.length ≤ 4 := by rw [← hS]; simp [dig4]
          simp; omega
        have HS2 := veil hS2
        rw [hS]
        rw [hc] at hsl
        clear hd hS hS2 hd16 hm hc hkj hj
        go_wp2_with (refine wpList_add_as S [c] HS.out rfl _ _ rfl rfl rfl Z.out ?_)
        go_roundw
        case rel => exact ⟨1, 8, by omega, by omega, by rw [HS2.out], by go_num, trivial⟩
        case measure => simp [intOf]
      · obtain rfl : k = 8 := by omega
        obtain ⟨d, hd⟩ : ∃ d, n / 256 % 16 = d := ⟨_, rfl⟩
        have hd16 : d < 16 := by omega
        have e1 : bits .and .u16 ((n : Int) / 256) 15 = (d : Int) := by
          have h1 := nib (n := n / 256) (by have := HN.out; omega)
          rw [hd] at h1
          rw [← h1]
          congr 1
        obtain ⟨m, hm⟩ : ∃ m, d + 1 = m := ⟨_, rfl⟩
        have e2 : IntKind.u16.wrap ((d : Int) + 1) = (m : Int) := by rw [IntKind.wrap_u16]; omega
        have hsl : ∀ u, (Instr.sliceAt 9 (.string ⟨#[48, 49, 50, 51, 52, 53, 54, 55, 56, 57, 97, 98, 99, 100, 101, 102]⟩) (some (.int .u16 d)) (some (.int .u16 m)) none).run Tryd.prog u = .ok (.string (bs [dgt false d])) u := fun u => slice_one (allS false) hm (by show m ≤ 16; omega) (allS_cut false ⟨d, hd16⟩) u
        obtain ⟨S, hS⟩ : ∃ S, (dig4 false n).take 1 = S := ⟨_, rfl⟩
        obtain ⟨S2, hS2⟩ : ∃ S2, (dig4 false n).take 2 = S2 := ⟨_, rfl⟩
        obtain ⟨c, hc⟩ : ∃ c, dgt false d = c := ⟨_, rfl⟩
        have HS : Hid (S ++ [c] = S2) := by
          unfold Hid
          rw [← hS, ← hS2, ← hc, ← hd]
          rfl
        have Z : Hid (Fits S [c]) := by
          unfold Hid Fits
          have : S.length ≤ 4 := by rw [← hS]; simp [dig4]
          simp; omega
        have HS2 := veil hS2
        rw [hS]
        rw [hc] at hsl
        clear hd hS hS2 hd16 hm hc hkj hj
        go_wp2_with (refine wpList_add_as S [c] HS.out rfl _ _ rfl rfl rfl Z.out ?_)
        go_roundw
        case rel => exact ⟨2, 4, by omega, by omega, by rw [HS2.out], by go_num, trivial⟩
        case measure => simp [intOf]
      · obtain rfl : k = 4 := by omega
        obtain ⟨d, hd⟩ : ∃ d, n / 16 % 16 = d := ⟨_, rfl⟩
        have hd16 : d < 16 := by omega
        have e1 : bits .and .u16 ((n : Int) / 16) 15 = (d : Int) := by
          have h1 := nib (n := n / 16) (by have := HN.out; omega)
          rw [hd] at h1
          rw [← h1]
          congr 1
        obtain ⟨m, hm⟩ : ∃ m, d + 1 = m := ⟨_, rfl⟩
        have e2 : IntKind.u16.wrap ((d : Int) + 1) = (m : Int) := by rw [IntKind.wrap_u16]; omega
        have hsl : ∀ u, (Instr.sliceAt 9 (.string ⟨#[48, 49, 50, 51, 52, 53, 54, 55, 56, 57, 97, 98, 99, 100, 101, 102]⟩) (some (.int .u16 d)) (some (.int .u16 m)) none).run Tryd.prog u = .ok (.string (bs [dgt false d])) u := fun u => slice_one (allS false) hm (by show m ≤ 16; omega) (allS_cut false ⟨d, hd16⟩) u
        obtain ⟨S, hS⟩ : ∃ S, (dig4 false n).take 2 = S := ⟨_, rfl⟩
        obtain ⟨S2, hS2⟩ : ∃ S2, (dig4 false n).take 3 = S2 := ⟨_, rfl⟩
        obtain ⟨c, hc⟩ : ∃ c, dgt false d = c := ⟨_, rfl⟩
        have HS : Hid (S ++ [c] = S2) := by
          unfold Hid
          rw [← hS, ← hS2, ← hc, ← hd]
          rfl
        have Z : Hid (Fits S [c]) := by
          unfold Hid Fits
          have : S.length ≤ 4 := by rw [← hS]; simp [dig4]
          simp; omega
        have HS2 := veil hS2
        rw [hS]
        rw [hc] at hsl
        clear hd hS hS2 hd16 hm hc hkj hj
        go_wp2_with (refine wpList_add_as S [c] HS.out rfl _ _ rfl rfl rfl Z.out ?_)
        go_roundw
        case rel => exact ⟨3, 0, by omega, by omega, by rw [HS2.out], by go_num, trivial⟩
        case measure => simp [intOf]
      · obtain rfl : k = 0 := by omega
        obtain ⟨d, hd⟩ : ∃ d, n % 16 = d := ⟨_, rfl⟩
        have hd16 : d < 16 := by omega
        have e1 : bits .and .u16 (n : Int) 15 = (d : Int) := by
          have h1 := nib (n := n) (by have := HN.out; omega)
          rw [hd] at h1
          rw [← h1]
          try rfl
        obtain ⟨m, hm⟩ : ∃ m, d + 1 = m := ⟨_, rfl⟩
        have e2 : IntKind.u16.wrap ((d : Int) + 1) = (m : Int) := by rw [IntKind.wrap_u16]; omega
        have hsl : ∀ u, (Instr.sliceAt 9 (.string ⟨#[48, 49, 50, 51, 52, 53, 54, 55, 56, 57, 97, 98, 99, 100, 101, 102]⟩) (some (.int .u16 d)) (some (.int .u16 m)) none).run Tryd.prog u = .ok (.string (bs [dgt false d])) u := fun u => slice_one (allS false) hm (by show m ≤ 16; omega) (allS_cut false ⟨d, hd16⟩) u
        obtain ⟨S, hS⟩ : ∃ S, (dig4 false n).take 3 = S := ⟨_, rfl⟩
        obtain ⟨S2, hS2⟩ : ∃ S2, (dig4 false n).take 4 = S2 := ⟨_, rfl⟩
        obtain ⟨c, hc⟩ : ∃ c, dgt false d = c := ⟨_, rfl⟩
        have HS : Hid (S ++ [c] = S2) := by
          unfold Hid
          rw [← hS, ← hS2, ← hc, ← hd]
          rfl
        have Z : Hid (Fits S [c]) := by
          unfold Hid Fits
          have : S.length ≤ 4 := by rw [← hS]; simp [dig4]
          simp; omega
        have HS2 := veil hS2
        rw [hS]
        rw [hc] at hsl
        clear hd hS hS2 hd16 hm hc hkj hj
        go_wp2_with (refine wpList_add_as S [c] HS.out rfl _ _ rfl rfl rfl Z.out ?_)
        go_roundw
        case rel => exact ⟨4, -4, by omega, by omega, by rw [HS2.out], by go_num, trivial⟩
        case measure => simp [intOf]
      · obtain rfl : k = -4 := by omega
        go_wp2_with fail
        go_ret
        exact ⟨rfl, rfl⟩

theorem tenS_cut : ∀ (d : Fin 10), (([48, 49, 50, 51, 52, 53, 54, 55, 56, 57] : Str).drop d.1).take 1 = [(48 + d.1).toUInt8] := by decide +kernel
theorem ten_one {d m : Nat} (hd : d < 10) (hm : d + 1 = m) (u : World) : (Instr.sliceAt 9 (.string ⟨#[48, 49, 50, 51, 52, 53, 54, 55, 56, 57]⟩) (some (.int .u8 d)) (some (.int .u8 m)) none).run Tryd.prog u = .ok (.string (bs [(48 + d).toUInt8])) u :=
  slice_one [48, 49, 50, 51, 52, 53, 54, 55, 56, 57] hm (by show m ≤ 10; omega) (tenS_cut ⟨d, hd⟩) u
set_option maxRecDepth 100000 in
set_option maxHeartbeats 2000000 in
theorem lawDecimal_any (n : Nat) (w : World) (hn : n < 256) : Calls Tryd.prog 15 #[.int .u8 n] w fun e w' => e = .returned (.string (bs (dec3 n))) ∧ w = w' := by
  obtain ⟨a, ha⟩ : ∃ a, n % 10 = a := ⟨_, rfl⟩
  obtain ⟨a1, ha1⟩ : ∃ a1, a + 1 = a1 := ⟨_, rfl⟩
  have ra : (n : Int).tmod 10 = (a : Int) := by rw [← ha]; exact (Int.ofNat_tmod n 10).symm
  have sa : IntKind.u8.wrap ((a : Int) + 1) = (a1 : Int) := by rw [IntKind.wrap_u8]; omega
  have ca := ten_one (d := a) (by omega) ha1
  obtain ⟨q, hq⟩ : ∃ q, n / 10 = q := ⟨_, rfl⟩
  have rq : (n : Int).tdiv 10 = (q : Int) := by rw [← hq]; exact (Int.ofNat_tdiv n 10).symm
  obtain ⟨b, hb⟩ : ∃ b, q % 10 = b := ⟨_, rfl⟩
  obtain ⟨b1, hb1⟩ : ∃ b1, b + 1 = b1 := ⟨_, rfl⟩
  have rb : (q : Int).tmod 10 = (b : Int) := by rw [← hb]; exact (Int.ofNat_tmod q 10).symm
  have sb : IntKind.u8.wrap ((b : Int) + 1) = (b1 : Int) := by rw [IntKind.wrap_u8]; omega
  have cb := ten_one (d := b) (by omega) hb1
  obtain ⟨c, hc⟩ : ∃ c, n / 100 = c := ⟨_, rfl⟩
  obtain ⟨c1, hc1⟩ : ∃ c1, c + 1 = c1 := ⟨_, rfl⟩
  have rc : (n : Int).tdiv 100 = (c : Int) := by rw [← hc]; exact (Int.ofNat_tdiv n 100).symm
  have sc : IntKind.u8.wrap ((c : Int) + 1) = (c1 : Int) := by rw [IntKind.wrap_u8]; omega
  have cc := ten_one (d := c) (by omega) hc1
  have wq : IntKind.u8.wrap (q : Int) = (q : Int) := by rw [IntKind.wrap_u8]; omega
  have wc : IntKind.u8.wrap (c : Int) = (c : Int) := by rw [IntKind.wrap_u8]; omega
  have hn' : (n : Int) < 256 := by omega
  obtain ⟨A, hA⟩ : ∃ A, (48 + a).toUInt8 = A := ⟨_, rfl⟩
  obtain ⟨B, hB⟩ : ∃ B, (48 + b).toUInt8 = B := ⟨_, rfl⟩
  obtain ⟨C, hC⟩ : ∃ C, (48 + c).toUInt8 = C := ⟨_, rfl⟩
  rw [hA] at ca
  rw [hB] at cb
  rw [hC] at cc
  by_cases h1 : n < 10
  · have hd : dec3 n = [A] := by unfold dec3; rw [if_pos h1, ← hA, ← ha, Nat.mod_eq_of_lt h1]
    have HD := veil hd
    have x1 : ¬ (10 : Int) ≤ (n : Int) := by omega
    have x2 : ¬ (100 : Int) ≤ (n : Int) := by omega
    clear hd hA hB hC ha ha1 hq hb hb1 hc hc1 hn h1
    go_enter Tryd.func15, Tryd.ntmps15
    go_wp2_with fail
    go_ret
    exact ⟨by rw [HD.out]; rfl, rfl⟩
  · by_cases h2 : n < 100
    · have hd : [B] ++ [A] = dec3 n := by unfold dec3; rw [if_neg h1, if_pos h2, ← hA, ← hB, ← ha, ← hb, hq, Nat.mod_eq_of_lt (show q < 10 by omega)]; rfl
      have HD := veil hd
      have x1 : (10 : Int) ≤ (n : Int) := by omega
      have x2 : ¬ (100 : Int) ≤ (n : Int) := by omega
      have Z : Hid (Fits [B] [A]) := by unfold Hid Fits; simp
      clear hd hA hB hC ha ha1 hq hb hb1 hc hc1 hn h1 h2
      go_enter Tryd.func15, Tryd.ntmps15
      go_wp2_with (refine wpList_add_as [B] [A] HD.out rfl _ _ rfl rfl rfl Z.out ?_)
      go_ret
      exact ⟨rfl, rfl⟩
    · have hd : [C] ++ ([B] ++ [A]) = dec3 n := by unfold dec3; rw [if_neg h1, if_neg h2, ← hA, ← hB, ← hC, ← ha, ← hb, ← hc, ← hq]; rfl
      obtain ⟨S, hS⟩ : ∃ S, [B] ++ [A] = S := ⟨_, rfl⟩
      rw [hS] at hd
      have HD := veil hd
      have HS := veil hS
      have x1 : (10 : Int) ≤ (n : Int) := by omega
      have x2 : (100 : Int) ≤ (n : Int) := by omega
      have Z : Hid (Fits [B] [A]) := by unfold Hid Fits; simp
      have Z2 : Hid (Fits [C] S) := by unfold Hid Fits; rw [← hS]; simp
      clear hd hS hA hB hC ha ha1 hq hb hb1 hc hc1 hn h1 h2
      go_enter Tryd.func15, Tryd.ntmps15
      go_wp2_with (first
        | (refine wpList_add_as [B] [A] HS.out rfl _ _ rfl rfl rfl Z.out ?_)
        | (refine wpList_add_as [C] S HD.out rfl _ _ rfl rfl rfl Z2.out ?_))
      go_ret
      exact ⟨rfl, rfl⟩
end Go.Proofs.YtfaaogidbpfelaaDoor.Tx
