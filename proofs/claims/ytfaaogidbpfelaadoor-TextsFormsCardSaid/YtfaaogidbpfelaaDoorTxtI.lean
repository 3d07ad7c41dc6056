/-
  strconv.FormatUint at base 16, of a number below 65536: its digits.
  Conditions: the library's table lies where it should.
-/
import Derived.Test.YtfaaogidbpfelaaDoorTxtH
import Derived.Lib.SlBytesRow
namespace Go.Proofs.YtfaaogidbpfelaaDoor.Tx
open Go.RowKit Ad

/-- the library's table, at the place that is read -/
def Db (w : World) : Prop := w.cell? ⟨3, 15, none⟩ = some (.int .u8 4)
theorem Db.keep {w w' : World} (h : Db w) (hb : Below w.heap.size w w') : Db w' := by
  unfold Db at h ⊢
  rw [hb.cell (block_lt_of_cell h), h]

theorem pow2_16 (w : World) : Calls Tryd.prog 60 #[.int .i64 16] w fun e w' => e = .returned (.bool true) ∧ w' = w := by
  go_enter Tryd.func60, Tryd.ntmps60
  go_wp2_with fail
  go_ret
  exact ⟨rfl, rfl⟩
theorem tz64_16 (w : World) (h : Db w) : Calls Tryd.prog 67 #[.int .u64 16] w fun e w' => e = .returned (.int .i64 4) ∧ w' = w := by
  unfold Db at h
  have b1 : bits .and .u64 16 (IntKind.u64.wrap (-16)) = 16 := by kernel_rfl
  have b2 : IntKind.u64.wrap (16 * 285870213051353865) = 4573923408821661840 := by kernel_rfl
  have b3 : IntKind.u64.wrap 4573923408821661840 = 4573923408821661840 := by kernel_rfl
  go_enter Tryd.func67, Tryd.ntmps67
  go_wp2_with fail
  go_ret
  exact ⟨rfl, rfl⟩
theorem tz_16 (w : World) (h : Db w) : Calls Tryd.prog 61 #[.int .u64 16] w fun e w' => e = .returned (.int .i64 4) ∧ w' = w := by
  go_enter Tryd.func61, Tryd.ntmps61
  go_wp2_with (go_at_call 67; refine (tz64_16 _ h).mono ?_; rintro e w' ⟨rfl, rfl⟩)
  go_ret
  exact ⟨rfl, rfl⟩

/-- what is left to write -/
def hxW : Nat → Nat → Str → Str
  | 0, u, acc => hexd u :: acc
  | n + 1, u, acc => if u < 16 then hexd u :: acc else hxW n (u / 16) (hexd (u % 16) :: acc)
theorem hxW_low (n : Nat) {u : Nat} (acc : Str) (h : u < 16) : hxW n u acc = hexd u :: acc := by
  cases n with
  | zero => rfl
  | succ n => rw [hxW, if_pos h]
theorem hxW_hex {n : Nat} (h : n < 65536) : hxW 3 n [] = hex n := by
  unfold hex
  by_cases h1 : n < 16
  · rw [if_pos h1, hxW_low _ _ h1]
  · rw [if_neg h1, hxW, if_neg h1]
    by_cases h2 : n < 256
    · rw [if_pos h2, hxW_low _ _ (by omega)]
    · rw [if_neg h2, hxW, if_neg (by omega), Nat.div_div_eq_div_mul]
      by_cases h3 : n < 4096
      · rw [if_pos h3, hxW_low _ _ (by omega)]
      · rw [if_neg h3, hxW, if_neg (by omega), Nat.div_div_eq_div_mul, hxW_low _ _ (by omega)]
set_option maxRecDepth 100000 in
theorem hexd_at (w : World) {d : Nat} (h : d < 16) : (Instr.index 9 (.string ⟨#[48, 49, 50, 51, 52, 53, 54, 55, 56, 57, 97, 98, 99, 100, 101, 102, 103, 104, 105, 106, 107, 108, 109, 110, 111, 112, 113, 114, 115, 116, 117, 118, 119, 120, 121, 122]⟩) (.int .u64 (d : Int))).run Tryd.prog w = .ok (.int .u8 ((hexd d).toNat : Int)) w := by
  have : d = 0 ∨ d = 1 ∨ d = 2 ∨ d = 3 ∨ d = 4 ∨ d = 5 ∨ d = 6 ∨ d = 7 ∨ d = 8 ∨ d = 9 ∨ d = 10 ∨ d = 11 ∨ d = 12 ∨ d = 13 ∨ d = 14 ∨ d = 15 := by omega
  rcases this with rfl | rfl | rfl | rfl | rfl | rfl | rfl | rfl | rfl | rfl | rfl | rfl | rfl | rfl | rfl | rfl <;> rfl
theorem and_15 (u : Nat) (h : u < 65536) : bits .and .u64 (u : Int) 15 = ((u % 16 : Nat) : Int) := by
  unfold bits
  have h2 : ((BitVec.ofInt IntKind.u64.bits (u : Int) &&& BitVec.ofInt IntKind.u64.bits (15 : Int)).toNat) = u % 16 := by
    rw [show (15 : Int) = ((15 : Nat) : Int) from rfl, BitVec.ofInt_natCast, BitVec.ofInt_natCast, BitVec.toNat_and, BitVec.toNat_ofNat, BitVec.toNat_ofNat, Nat.mod_eq_of_lt (by show _ < 2 ^ 64; omega), Nat.mod_eq_of_lt (by show _ < 2 ^ 64; omega)]
    exact Nat.and_two_pow_sub_one_eq_mod u 4
  simp only
  rw [h2, IntWalk.u64_in _ (by omega)]
def by65 (acc : Str) : List Int := List.replicate (65 - acc.length) 0 ++ acc.map fun b => (b.toNat : Int)
def row65 (acc : Str) : Array Value := (bv (by65 acc)).toArray
theorem by65_set (acc : Str) (b : UInt8) (h : acc.length < 65) : (by65 acc).set (64 - acc.length) (b.toNat : Int) = by65 (b :: acc) := by
  unfold by65
  obtain ⟨k, hk⟩ : ∃ k, 65 - acc.length = k + 1 := ⟨64 - acc.length, by omega⟩
  rw [hk, show 64 - acc.length = k by omega, show 65 - (b :: acc).length = k by simp; omega, List.replicate_succ']
  simp
theorem row65_set (acc : Str) (b : UInt8) (h : acc.length < 65) : (row65 acc).setIfInBounds (64 - acc.length) (.int .u8 (b.toNat : Int)) = row65 (b :: acc) := by
  unfold row65
  rw [← by65_set acc b h]
  simp [bv, List.map_set]
theorem by65_len (acc : Str) (h : acc.length ≤ 65) : (by65 acc).length = 65 := by simp [by65]; omega
theorem row65_str {w : World} {g : Nat} {acc : Str} (h : Row w g 97 (row65 acc)) (hl : acc.length ≤ 65) : Lib.Bytes w g (65 - acc.length) (bs acc) := by
  intro i hi
  have hi' : i < acc.length := by rw [bs_size] at hi; exact hi
  rw [h.cell, row65, List.getElem?_toArray, bv_get _ _ (by rw [by65_len _ hl]; omega), bs_at]
  congr 2
  unfold by65
  rw [List.getD, List.getElem?_append_right (by simp)]
  simp [hi']
theorem slice_65 {g k m : Nat} (w : World) (hk : k < 65) (hm : 65 - k = m) : (Instr.sliceAt 97 (.pointer (some ⟨g, 0, none⟩)) (some (.int .i64 k)) none none).run Tryd.prog w = .ok (.slice (some ⟨g, k, none⟩) m m) w := by
  have h1 : (k : Int) ≤ 65 := by omega
  have h2 : ¬ 65 = k := by omega
  simp [Instr.sliceAt, run_underlying Tryd.underlying97, go_sem, h1, h2, hm]
theorem conv_65 {w : World} {g k m : Nat} {acc : Str} (h : Row w g 97 (row65 acc)) (hl : acc.length ≤ 65) (hk : 65 - acc.length = k) (hm : acc.length = m) : (convert 67 9 (.slice (some ⟨g, k, none⟩) m m)).run Tryd.prog w = .ok (.string (bs acc)) w := by
  have := Lib.run_convert_whole (P := Tryd.prog) w 67 5 9 Tryd.underlying67 Tryd.underlying5 Tryd.underlying9 g k (bs acc) (hk ▸ row65_str h hl) m
  rw [bs_size, hm] at this
  exact this

set_option maxRecDepth 100000 in
set_option maxHeartbeats 2000000 in
theorem formatBits_any (n : Nat) (w : World) (hn : n < 65536) (hd : Db w) : Calls Tryd.prog 47 #[.slice none 0 0, .int .u64 n, .int .i64 16, .bool false, .bool false] w fun e w' =>
    e = .returned (.tuple #[.slice none 0 0, .string (bs (hex n))]) ∧ Below w.heap.size w w' := by
  have q0 := below_new w (.cells Tryd.zeroCells97 97)
  have r0 := row_new (w := w) (g := w.heap.size) (cs := Tryd.zeroCells97) (t := 97) rfl
  have e0 : Tryd.zeroCells97 = row65 [] := by kernel_rfl
  obtain ⟨w1, hw1⟩ : ∃ w1, w.alloc (.cells Tryd.zeroCells97 97) = w1 := ⟨_, rfl⟩
  rw [hw1] at q0 r0
  rw [e0] at r0
  have D1 := hd.keep q0
  have HW := veil hw1
  have R0 := veil r0
  have Q := veil q0
  have HX := veil (hxW_hex hn)
  clear q0 r0 e0 hw1 hd
  obtain ⟨S, hS⟩ : ∃ S, hex n = S := ⟨_, rfl⟩
  rw [hS] at HX ⊢
  clear hS
  go_enter Tryd.func47, Tryd.ntmps47
  go_wp2_with fail
  rw [HW.out]
  refine (pow2_16 _).mono ?_
  rintro e w' ⟨rfl, rfl⟩
  clear HW
  go_wp2_with (first
    | (go_at_call 60; refine (pow2_16 _).mono ?_; rintro e w' ⟨rfl, rfl⟩)
    | (go_at_call 61; refine (tz_16 _ D1).mono ?_; rintro e w' ⟨rfl, rfl⟩))
  clear D1
  go_loopg [1, 13] 3 (fun g s1 s13 wx => ∃ (u i : Nat) (acc : Str), s1 = .int .u64 u ∧ s13 = .int .i64 i ∧ i + acc.length = 65 ∧ acc.length + g = 3 ∧ u < 16 ^ (g + 1) ∧ Hid (hxW g u acc = S) ∧ Hid (Row wx w.heap.size 97 (row65 acc) ∧ Below w.heap.size w wx))
  case atStart => exact ⟨n, 65, [], rfl, rfl, rfl, rfl, by omega, HX.out, R0.out, Q.out⟩
  case round =>
    clear R0 Q HX
    obtain ⟨u, i, acc, rfl, rfl, hi, hg, hu, hR, hW⟩ := hrel
    obtain ⟨hr, hb⟩ := hW.out
    have hu5 : u < 65536 := Nat.lt_of_lt_of_le hu (Nat.pow_le_pow_right (n := 16) (by omega) (by omega : gk + 1 ≤ 4))
    obtain ⟨i1, hi1⟩ : ∃ i1, i = i1 + 1 := ⟨i - 1, by omega⟩
    subst hi1
    have s1 : IntKind.i64.wrap (((i1 + 1 : Nat) : Int) - 1) = (i1 : Int) := by rw [IntWalk.i64_in _ (by omega)]; omega
    have p1 : ¬ ((i1 : Int) < 0) := by omega
    have p2 : (i1 : Int) < 65 := by omega
    have p3 : (i1 : Int).toNat = i1 := by omega
    have f2 : wr.frozen? ⟨w.heap.size, i1, none⟩ = false := hr.frozen _
    have hi6 : i1 = 64 - acc.length := by omega
    have c2 : wr.cell? ⟨w.heap.size, i1, none⟩ = some (.int .u8 ((by65 acc).getD i1 0)) := by
      rw [hr.cell, row65, List.getElem?_toArray, bv_get _ _ (by rw [by65_len _ (by omega)]; omega)]
    generalize (by65 acc).getD i1 0 = z at c2
    by_cases hlt : u < 16
    · have HR : Hid (hexd u :: acc = S) := by
        unfold Hid
        rw [← hR.out, hxW_low _ _ hlt]
      have hix := hexd_at wr hlt
      have R3 := hr.set i1 (.int .u8 ((hexd u).toNat : Int))
      rw [hi6, row65_set _ _ (by omega), ← hi6] at R3
      have Q3 := veil (hb.setCell (p := ⟨w.heap.size, i1, none⟩) (by simp) (.int .u8 ((hexd u).toNat : Int)))
      obtain ⟨m, hm⟩ : ∃ m, 65 - i1 = m := ⟨_, rfl⟩
      have SL := veil (slice_65 (g := w.heap.size) (wr.setCell ⟨w.heap.size, i1, none⟩ (.int .u8 ((hexd u).toNat : Int))) (by omega) hm)
      have CV := veil (conv_65 (k := i1) (m := m) R3 (by simp; omega) (by simp; omega) (by simp; omega))
      rw [HR.out] at CV
      have hq : ¬ (16 : Int) ≤ (u : Int) := by omega
      have hq' : (u : Int) < 16 := by omega
      generalize (hexd u).toNat = b at *
      clear hR hW hr hb R3 HR hi hi6 hm hu hu5
      have hsl := SL.out
      have hcv := CV.out
      go_wp2_with fail
      go_ret2
      exact ⟨rfl, Q3.out⟩
    · cases gk with
      | zero => exact absurd hu (by omega)
      | succ g =>
        have HR : Hid (hxW g (u / 16) (hexd (u % 16) :: acc) = S) := by
          unfold Hid
          rw [← hR.out, hxW, if_neg hlt]
        have hix := hexd_at wr (d := u % 16) (by omega)
        have ha := and_15 u hu5
        have R3 := hr.set i1 (.int .u8 ((hexd (u % 16)).toNat : Int))
        rw [hi6, row65_set _ _ (by omega), ← hi6] at R3
        have R3 := veil R3
        have Q3 := veil (hb.setCell (p := ⟨w.heap.size, i1, none⟩) (by simp) (.int .u8 ((hexd (u % 16)).toNat : Int)))
        have hq : (16 : Int) ≤ (u : Int) := by omega
        have hd16 : u / 16 < 16 ^ (g + 1) := by
          have : 16 ^ (g + 1 + 1) = 16 * 16 ^ (g + 1) := by rw [Nat.pow_succ, Nat.mul_comm]
          omega
        have HL : Hid ((hexd (u % 16) :: acc).length = acc.length + 1) := rfl
        generalize hexd (u % 16) = bb at *
        generalize bb.toNat = b at *
        generalize u % 16 = d at *
        have p4 : ¬ ((d : Int) < 0) := by omega
        clear hR hW hr hb hu hi6
        go_wp2_with fail
        go_roundg g
        case measure => omega
        case rel => exact ⟨u / 16, i1, bb :: acc, by go_num, rfl, by rw [HL.out]; omega, by rw [HL.out]; omega, hd16, HR.out, R3.out, Q3.out⟩
end Go.Proofs.YtfaaogidbpfelaaDoor.Tx
