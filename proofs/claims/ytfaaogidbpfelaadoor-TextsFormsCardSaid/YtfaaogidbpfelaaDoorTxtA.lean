/-
  What digit, number and decimal answer, whatever they are handed.
  Conditions: none.
-/
import Derived.Test.YtfaaogidbpfelaaDoorTxtM
namespace Go.Proofs.YtfaaogidbpfelaaDoor.Tx
open Go.RowKit

/-- a rune's number as a digit -/
def digI (r : Int) : Int := if 48 ≤ r ∧ r ≤ 57 then r - 48 else if 97 ≤ r ∧ r ≤ 102 then r - 87 else if 65 ≤ r ∧ r ≤ 70 then r - 55 else 16
theorem digit_any (r : Int) (w : World) : Calls Tryd.prog 56 #[.int .i32 r] w fun e w' => e = .returned (.int .i64 (digI r)) ∧ w = w' := by
  go_enter Tryd.func56, Tryd.ntmps56
  go_wp2_with fail
  all_goals
    go_ret
    refine ⟨?_, rfl⟩
    show Ending.returned (Value.int IntKind.i64 _) = _
    congr 2
    unfold digI
    repeat' split
    all_goals omega

theorem dig_hi {b : UInt8} (h : 128 ≤ b.toNat) : dig b = 16 := by unfold dig; (repeat' split) <;> omega
theorem dig_le (b : UInt8) : dig b ≤ 16 := by unfold dig; (repeat' split) <;> omega
theorem digI_hi {r : Int} (h : 128 ≤ r) : digI r = 16 := by unfold digI; (repeat' split) <;> omega
theorem digI_dig (b : UInt8) : digI b.toNat = dig b := by unfold digI dig; (repeat' split) <;> omega

/-- a number, or none -/
def nres (o : Option Nat) : Value := .tuple #[.int .i64 (o.getD 0), .bool o.isSome]

set_option maxRecDepth 100000 in
set_option maxHeartbeats 1000000 in
theorem number16_any (s : Str) (w : World) : Calls Tryd.prog 42 #[.string (bs s), .int .i64 16, .int .i64 4] w fun e w' => e = .returned (nres (num 16 4 s)) ∧ Below w.heap.size w w' := by
  by_cases h0 : s = []
  · subst h0
    have e : bs [] = ⟨#[]⟩ := rfl
    rw [e]
    go_enter Tryd.func42, Tryd.ntmps42
    go_wp2_with fail
    go_ret2
    exact ⟨rfl, Below.refl _ _⟩
  · have hsz := bs_size s
    by_cases h1 : 4 < s.length
    · have hn : num 16 4 s = none := by unfold num; rw [if_pos (Or.inr h1)]
      have h1' : (4 : Int) < (s.length : Int) := by omega
      rw [hn]
      clear hn h1
      have hb : (bs s).toList.isEmpty = false := by rw [bs_list]; cases s with | nil => exact absurd rfl h0 | cons _ _ => rfl
      go_enter Tryd.func42, Tryd.ntmps42
      go_wp2_with fail
      go_ret2
      exact ⟨rfl, Below.refl _ _⟩
    · have hn : Hid (num 16 4 s = numF 16 0 s) := by unfold Hid num; rw [if_neg (fun h => h.elim h0 h1)]
      have h1' : ¬ (4 : Int) < (s.length : Int) := by omega
      have hb : (bs s).toList.isEmpty = false := by rw [bs_list]; cases s with | nil => exact absurd rfl h0 | cons _ _ => rfl
      have Q := veil (below_new w)
      go_enter Tryd.func42, Tryd.ntmps42
      go_wp2_with fail
      go_loopw [6] (fun n wr => ∃ pos acc : Nat, wr = w.iter (bs s) pos ∧ n = .int .i64 acc ∧ pos ≤ s.length ∧ acc < 16 ^ pos ∧ Hid (numF 16 acc (s.drop pos) = numF 16 0 s)) (fun _ wr => s.length - wr.iterPos w.heap.size)
      case atStart => exact ⟨0, 0, rfl, rfl, by omega, by decide, rfl⟩
      case round =>
        obtain ⟨pos, acc, rfl, rfl, hp, ha, hR⟩ := hrel
        by_cases hlt : pos < s.length
        · have hlt' : pos < (bs s).size := by rw [hsz]; exact hlt
          have hat : (bs s)[pos]'hlt' = s[pos] := bs_at s pos hlt'
          have hdrop : s.drop pos = s[pos] :: s.drop (pos + 1) := List.drop_eq_getElem_cons hlt
          have hpw : (16 : Nat) ^ pos ≤ 4096 := by
            have : pos ≤ 3 := by omega
            have := Nat.pow_le_pow_right (n := 16) (by omega) this
            omega
          have hpw1 : (16 : Nat) ^ (pos + 1) = 16 * 16 ^ pos := by rw [Nat.pow_succ]; omega
          by_cases hhi : 128 ≤ (s[pos]).toNat
          · have hd := decode_high (bs s) pos hlt' (by rw [hat]; exact hhi)
            have hnx : ∀ ty, (Instr.next (.pointer (some ⟨w.heap.size, 0, none⟩)) true ty).run Tryd.prog (w.iter (bs s) pos) = _ := fun ty => run_next_any w (bs s) pos ty hlt'
            have hN : Hid (num 16 4 s = none) := by
              unfold Hid
              rw [hn.out, ← hR.out, hdrop, numF, if_neg (by rw [dig_hi hhi]; omega)]
            generalize Utf8.decode (bs s) pos = x at hd hnx
            obtain ⟨r, m⟩ := x
            simp only at hd hnx
            have K : ∀ v, Calls Tryd.prog 56 #[.int .i32 r] v fun e w' => e = .returned (.int .i64 16) ∧ v = w' := fun v => by
              have := digit_any r v
              rwa [digI_hi (by omega)] at this
            have K := veil K
            clear hR hn hdrop hat ha hpw hpw1
            go_wp2_with fail
            refine (K.out _).mono ?_
            rintro e w1 ⟨rfl, rfl⟩
            go_wp2_with fail
            go_ret2
            refine ⟨?_, Q.out _⟩
            rw [hN.out]
            rfl
          · have hnx : ∀ ty, (Instr.next (.pointer (some ⟨w.heap.size, 0, none⟩)) true ty).run Tryd.prog (w.iter (bs s) pos) = .ok (.tuple #[.bool true, .int .i64 pos, .int .i32 (s[pos]).toNat]) (w.iter (bs s) (pos + 1)) := fun ty => by
              have := run_next_ascii (P := Tryd.prog) w (bs s) pos ty hlt' (by rw [hat]; omega)
              rwa [hat] at this
            have K : ∀ v, Calls Tryd.prog 56 #[.int .i32 (s[pos]).toNat] v fun e w' => e = .returned (.int .i64 (dig s[pos])) ∧ v = w' := fun v => by
              have := digit_any (s[pos]).toNat v
              rwa [digI_dig] at this
            have K := veil K
            have hdl : dig s[pos] ≤ 16 := dig_le _
            by_cases hdg : dig s[pos] < 16
            · have hN : Hid (numF 16 (acc * 16 + dig s[pos]) (s.drop (pos + 1)) = numF 16 0 s) := by
                unfold Hid
                rw [← hR.out, hdrop, numF, if_pos hdg]
              have hB : acc * 16 + dig s[pos] < 16 ^ (pos + 1) := by omega
              generalize dig s[pos] = d at *
              generalize (s[pos]).toNat = r at *
              have hacc : acc < 4096 := by omega
              have HB := veil hB
              clear hR hdrop hat ha hpw hpw1 hdl hB hhi
              go_wp2_with fail
              refine (K.out _).mono ?_
              rintro e w1 ⟨rfl, rfl⟩
              go_wp2_with fail
              go_roundw
              case rel => exact ⟨pos + 1, acc * 16 + d, rfl, by go_num, by omega, HB.out, hN.out⟩
              case measure =>
                simp
                omega
            · have hN : Hid (num 16 4 s = none) := by
                unfold Hid
                rw [hn.out, ← hR.out, hdrop, numF, if_neg hdg]
              generalize dig s[pos] = d at *
              generalize (s[pos]).toNat = r at *
              clear hR hn hdrop hat ha hpw hpw1 hhi
              go_wp2_with fail
              refine (K.out _).mono ?_
              rintro e w1 ⟨rfl, rfl⟩
              go_wp2_with fail
              go_ret2
              refine ⟨?_, Q.out _⟩
              rw [hN.out]
              rfl
        · have hnx : ∀ ty, (Instr.next (.pointer (some ⟨w.heap.size, 0, none⟩)) true ty).run Tryd.prog (w.iter (bs s) pos) = _ := fun ty => run_next_end w (bs s) pos ty (by rw [hsz]; exact hlt)
          have hN : Hid (num 16 4 s = some acc) := by
            unfold Hid
            rw [hn.out, ← hR.out, List.drop_of_length_le (by omega), numF]
          clear hR hn ha
          go_wp2_with fail
          go_ret2
          refine ⟨?_, Q.out _⟩
          rw [hN.out]
          rfl

set_option maxRecDepth 100000 in
set_option maxHeartbeats 1000000 in
theorem number10_any (s : Str) (w : World) : Calls Tryd.prog 42 #[.string (bs s), .int .i64 10, .int .i64 3] w fun e w' => e = .returned (nres (num 10 3 s)) ∧ Below w.heap.size w w' := by
  by_cases h0 : s = []
  · subst h0
    have e : bs [] = ⟨#[]⟩ := rfl
    rw [e]
    go_enter Tryd.func42, Tryd.ntmps42
    go_wp2_with fail
    go_ret2
    exact ⟨rfl, Below.refl _ _⟩
  · have hsz := bs_size s
    by_cases h1 : 3 < s.length
    · have hn : num 10 3 s = none := by unfold num; rw [if_pos (Or.inr h1)]
      have h1' : (3 : Int) < (s.length : Int) := by omega
      rw [hn]
      clear hn h1
      have hb : (bs s).toList.isEmpty = false := by rw [bs_list]; cases s with | nil => exact absurd rfl h0 | cons _ _ => rfl
      go_enter Tryd.func42, Tryd.ntmps42
      go_wp2_with fail
      go_ret2
      exact ⟨rfl, Below.refl _ _⟩
    · have hn : Hid (num 10 3 s = numF 10 0 s) := by unfold Hid num; rw [if_neg (fun h => h.elim h0 h1)]
      have h1' : ¬ (3 : Int) < (s.length : Int) := by omega
      have hb : (bs s).toList.isEmpty = false := by rw [bs_list]; cases s with | nil => exact absurd rfl h0 | cons _ _ => rfl
      have Q := veil (below_new w)
      go_enter Tryd.func42, Tryd.ntmps42
      go_wp2_with fail
      go_loopw [6] (fun n wr => ∃ pos acc : Nat, wr = w.iter (bs s) pos ∧ n = .int .i64 acc ∧ pos ≤ s.length ∧ acc < 16 ^ pos ∧ Hid (numF 10 acc (s.drop pos) = numF 10 0 s)) (fun _ wr => s.length - wr.iterPos w.heap.size)
      case atStart => exact ⟨0, 0, rfl, rfl, by omega, by decide, rfl⟩
      case round =>
        obtain ⟨pos, acc, rfl, rfl, hp, ha, hR⟩ := hrel
        by_cases hlt : pos < s.length
        · have hlt' : pos < (bs s).size := by rw [hsz]; exact hlt
          have hat : (bs s)[pos]'hlt' = s[pos] := bs_at s pos hlt'
          have hdrop : s.drop pos = s[pos] :: s.drop (pos + 1) := List.drop_eq_getElem_cons hlt
          have hpw : (16 : Nat) ^ pos ≤ 4096 := by
            have : pos ≤ 3 := by omega
            have := Nat.pow_le_pow_right (n := 16) (by omega) this
            omega
          have hpw1 : (16 : Nat) ^ (pos + 1) = 16 * 16 ^ pos := by rw [Nat.pow_succ]; omega
          by_cases hhi : 128 ≤ (s[pos]).toNat
          · have hd := decode_high (bs s) pos hlt' (by rw [hat]; exact hhi)
            have hnx : ∀ ty, (Instr.next (.pointer (some ⟨w.heap.size, 0, none⟩)) true ty).run Tryd.prog (w.iter (bs s) pos) = _ := fun ty => run_next_any w (bs s) pos ty hlt'
            have hN : Hid (num 10 3 s = none) := by
              unfold Hid
              rw [hn.out, ← hR.out, hdrop, numF, if_neg (by rw [dig_hi hhi]; omega)]
            generalize Utf8.decode (bs s) pos = x at hd hnx
            obtain ⟨r, m⟩ := x
            simp only at hd hnx
            have K : ∀ v, Calls Tryd.prog 56 #[.int .i32 r] v fun e w' => e = .returned (.int .i64 16) ∧ v = w' := fun v => by
              have := digit_any r v
              rwa [digI_hi (by omega)] at this
            have K := veil K
            clear hR hn hdrop hat ha hpw hpw1
            go_wp2_with fail
            refine (K.out _).mono ?_
            rintro e w1 ⟨rfl, rfl⟩
            go_wp2_with fail
            go_ret2
            refine ⟨?_, Q.out _⟩
            rw [hN.out]
            rfl
          · have hnx : ∀ ty, (Instr.next (.pointer (some ⟨w.heap.size, 0, none⟩)) true ty).run Tryd.prog (w.iter (bs s) pos) = .ok (.tuple #[.bool true, .int .i64 pos, .int .i32 (s[pos]).toNat]) (w.iter (bs s) (pos + 1)) := fun ty => by
              have := run_next_ascii (P := Tryd.prog) w (bs s) pos ty hlt' (by rw [hat]; omega)
              rwa [hat] at this
            have K : ∀ v, Calls Tryd.prog 56 #[.int .i32 (s[pos]).toNat] v fun e w' => e = .returned (.int .i64 (dig s[pos])) ∧ v = w' := fun v => by
              have := digit_any (s[pos]).toNat v
              rwa [digI_dig] at this
            have K := veil K
            have hdl : dig s[pos] ≤ 16 := dig_le _
            by_cases hdg : dig s[pos] < 10
            · have hN : Hid (numF 10 (acc * 10 + dig s[pos]) (s.drop (pos + 1)) = numF 10 0 s) := by
                unfold Hid
                rw [← hR.out, hdrop, numF, if_pos hdg]
              have hB : acc * 10 + dig s[pos] < 16 ^ (pos + 1) := by omega
              generalize dig s[pos] = d at *
              generalize (s[pos]).toNat = r at *
              have hacc : acc < 4096 := by omega
              have HB := veil hB
              clear hR hdrop hat ha hpw hpw1 hdl hB hhi
              go_wp2_with fail
              refine (K.out _).mono ?_
              rintro e w1 ⟨rfl, rfl⟩
              go_wp2_with fail
              go_roundw
              case rel => exact ⟨pos + 1, acc * 10 + d, rfl, by go_num, by omega, HB.out, hN.out⟩
              case measure =>
                simp
                omega
            · have hN : Hid (num 10 3 s = none) := by
                unfold Hid
                rw [hn.out, ← hR.out, hdrop, numF, if_neg hdg]
              generalize dig s[pos] = d at *
              generalize (s[pos]).toNat = r at *
              clear hR hn hdrop hat ha hpw hpw1 hhi
              go_wp2_with fail
              refine (K.out _).mono ?_
              rintro e w1 ⟨rfl, rfl⟩
              go_wp2_with fail
              go_ret2
              refine ⟨?_, Q.out _⟩
              rw [hN.out]
              rfl
        · have hnx : ∀ ty, (Instr.next (.pointer (some ⟨w.heap.size, 0, none⟩)) true ty).run Tryd.prog (w.iter (bs s) pos) = _ := fun ty => run_next_end w (bs s) pos ty (by rw [hsz]; exact hlt)
          have hN : Hid (num 10 3 s = some acc) := by
            unfold Hid
            rw [hn.out, ← hR.out, List.drop_of_length_le (by omega), numF]
          clear hR hn ha
          go_wp2_with fail
          go_ret2
          refine ⟨?_, Q.out _⟩
          rw [hN.out]
          rfl

end Go.Proofs.YtfaaogidbpfelaaDoor.Tx
