/-
  The document's Put, as the reference has it: the bytes, and behind them the number's bytes, the highest one first.
  Conditions: at most 16000000 bytes.
-/
import Derived.Test.YtddmjenhpbbocaaOctI
namespace Go.Proofs.Ytddmjenhpbbocaa
open Go.RowKit

theorem be_at (n : Int) : ∀ (k i : Nat), i < k → (be n k).take (i + 1) = (be n k).take i ++ [n / 256 ^ (k - 1 - i) % 256]
  | 0, i, h => absurd h (by omega)
  | k + 1, 0, _ => by simp [be]
  | k + 1, i + 1, h => by
    have ih := be_at n k i (by omega)
    have e : k + 1 - 1 - (i + 1) = k - 1 - i := by omega
    simp only [be, List.take_succ_cons, List.cons_append, e]
    rw [ih]

theorem wrap_pow (k : Nat) (h : k ≤ 7) : IntKind.u64.wrap ((256 : Int) ^ k) = 256 ^ k := by
  have e := wide_pow k h
  rwa [Int.pow_mul] at e
/-- a byte of a number, as the machine reckons it -/
theorem quo_byte (n p : Int) (h0 : 0 ≤ n) (h1 : n < 256 ^ 8) (hp : 0 < p) : (IntKind.u64.wrap (n.tdiv p)).tmod 256 % 256 = n / p % 256 := by
  have e8 : (256 : Int) ^ 8 = 18446744073709551616 := by decide
  have hd : 0 ≤ n / p := Int.ediv_nonneg h0 (by omega)
  have hle : n / p ≤ n := Int.ediv_le_self p h0
  rw [Int.tdiv_eq_ediv_of_nonneg h0, IntKind.wrap_u64, Int.emod_eq_of_lt hd (by omega), Int.tmod_eq_emod_of_nonneg hd]
  omega

/-- append of one byte that lies in a block that was made just now -/
theorem wpList_byte {ops : Array Oper} {rest : List Oper} {o : Oper} {a : Act} {Q : Exit → Act → World → Prop} (hgd : o.guard = none) (s x : Operand)
    (hop : o.op = .call { callee := .builtin .append, args := #[s, x], argTypes := #[22, 22] }) (w : World) (base : Nat) (v : Value) (z : Int) (xs : List Int)
    (hs : a.eval s = v) (hx : a.eval x = .slice (some ⟨w.heap.size, 0, none⟩) 1 1) (hown : Own w base v xs) (hm : xs.length + 1 ≤ 16777216) (hB : base ≤ w.heap.size)
    (h : ∀ v' w', Own w' base v' (xs ++ [z]) → (w.alloc (.cells #[.int .u8 z] 5)).grownBy w' v.ownBlock → wpList Try.prog ops Q rest (a.put o.dst v') w') :
    wpList Try.prog ops Q (o :: rest) a (w.alloc (.cells #[.int .u8 z] 5)) := by
  have hr : Row (w.alloc (.cells #[.int .u8 z] 5)) w.heap.size 5 #[.int .u8 z] := row_new rfl
  have hu : Slc (w.alloc (.cells #[.int .u8 z] 5)) (.slice (some ⟨w.heap.size, 0, none⟩) 1 1) [z] := .inr ⟨_, 1, rfl, rd_lit hr rfl, by simp⟩
  obtain ⟨v', w', hrun, h2, h3, _⟩ := run_append_slc (w.alloc (.cells #[.int .u8 z] 5)) base o.type v _ xs [z] (hown.keep (below_new w _)) hu (by simpa using hm) (by simp; omega)
  exact wpList_append_run hgd s x hop hs hx hrun (h v' w' h2 h3)

/-- bytes of the call's own, and nothing that was there has changed -/
def Gives (w : World) (xs : List Int) (e : Ending) (w' : World) : Prop := ∃ A m c, e = .returned (.slice A m c) ∧ m = xs.length ∧ Own w' w.heap.size (.slice A m c) xs ∧ Below w.heap.size w w'

set_option maxHeartbeats 1000000 in
theorem refPut_yes (A : Option Addr) (m c : Nat) (zs : List Int) (n : Int) (k : Nat) (w : World) (hl : zs.length = m) (hm : m ≤ 16000000) (hr : Slc w (.slice A m c) zs) (h1 : 1 ≤ k) (h8 : k ≤ 8) (hn : 0 ≤ n ∧ n < 256 ^ 8) :
    Calls Try.prog 22 #[.slice A m c, .int .u64 n, .int .i64 k] w (Gives w (zs ++ be n k)) := by
  obtain ⟨v1, w1, hr1, ho1, hg1, -⟩ := run_append_slc w w.heap.size 22 (.slice none 0 0) (.slice A m c) [] zs (own_nil _ _) hr (by simp; omega) (Nat.le_refl _)
  have b1 : Below w.heap.size w w1 := own_below (own_nil w w.heap.size) hg1 (Below.refl _ _) (Nat.le_refl _)
  have HR1 := veil hr1
  have HO1 := veil ho1
  have Hb1 := veil b1
  have HL := veil hl
  have HN := veil hn
  obtain ⟨A1, c1, e1, _, _⟩ := ho1.slc.slice
  generalize ([] ++ zs).length = m1 at e1
  subst e1
  clear hr1 ho1 hg1 b1 hr hl hn
  go_enter Try.func22, Try.ntmps22
  go_wp2_with (first | (at_builtin; refine wpList_append_run rfl (.const (.slice none 0 0)) (.tmp 17) rfl rfl rfl HR1.out ?_))
  clear HR1
  go_loopw [8, 9] (fun p i wr => ∃ j : Nat, 1 ≤ j ∧ j ≤ k ∧ i = .int .i64 j ∧ p = .int .u64 (256 ^ (j - 1)) ∧ wr = w1) (fun _ i _ => k - (intOf i).toNat)
  case atStart => exact ⟨1, by omega, h1, rfl, rfl, rfl⟩
  case round =>
    obtain ⟨j, hj1, hj, rfl, rfl, rfl⟩ := hrel
    by_cases hlt : j < k
    · have hp : ((256 ^ (j - 1) : Nat) : Int) = (256 : Int) ^ (j - 1) := by simp
      have hq : (256 : Nat) ^ (j - 1) ≤ 256 ^ 6 := Nat.pow_le_pow_right (by omega) (by omega)
      have hw : IntKind.u64.wrap ((256 : Int) ^ (j - 1) * 256) = 256 ^ j := by
        have e : (256 : Int) ^ j = 256 ^ (j - 1) * 256 := by rw [← Int.pow_succ]; congr 1; omega
        rw [e, IntKind.wrap_u64]
        have := pow_pos256 (j - 1)
        omega
      clear hp hq
      go_wp2_with fail
      go_roundw
      case rel => exact ⟨j + 1, by omega, by omega, by go_num, rfl, trivial⟩
      case measure => simp [intOf]; omega
    · have e : j = k := by omega
      subst e
      have HA := veil (show Own wr w.heap.size (.slice A1 m1 c1) (zs ++ (be n j).take 0) by simpa using HO1.out)
      clear HO1
      go_wp2_with fail
      go_loopw [7, 8, 10] (fun ou p i wr => ∃ (t m2 c2 : Nat) (A2 : Option Addr) (pt : Int), t ≤ j ∧ i = .int .i64 t ∧ p = .int .u64 pt ∧ ou = .slice A2 m2 c2 ∧ Hid (Own wr w.heap.size (.slice A2 m2 c2) (zs ++ (be n j).take t) ∧ Below w.heap.size w wr ∧ (t < j → pt = 256 ^ (j - 1 - t)))) (fun _ _ i _ => j - (intOf i).toNat)
      case atStart => exact ⟨0, _, _, _, _, Nat.zero_le _, rfl, rfl, rfl, HA.out, Hb1.out, fun _ => rfl⟩
      case round =>
        obtain ⟨t, m2, c2, A2, pt, ht, rfl, rfl, rfl, hH⟩ := hrel
        clear HA Hb1
        by_cases hlt : t < j
        · have hpt := hH.out.2.2 hlt
          have hpp : 0 < pt := by rw [hpt]; exact pow_pos256 _
          have hpz : ¬ pt = 0 := by omega
          have hnx : Hid (t + 1 < j → IntKind.u64.wrap (pt.tdiv 256) = 256 ^ (j - 1 - (t + 1))) := fun h => by
            have e : j - 1 - t = (j - 1 - (t + 1)) + 1 := by omega
            rw [Int.tdiv_eq_ediv_of_nonneg (by omega), hpt, e, Int.pow_succ, Int.mul_ediv_cancel _ (by omega)]
            exact wrap_pow _ (by omega)
          have E := veil (be_at n j t hlt)
          rw [← hpt] at E
          have Z := veil (quo_byte n pt HN.out.1 HN.out.2 hpp)
          have hlen : Hid ((zs ++ (be n j).take t).length + 1 ≤ 16777216) := by simp [Hid, be_length]; have := HL.out; omega
          clear hpt
          go_wp2_with (first
            | (at_builtin
               refine wpList_byte rfl (.tmp 31) (.tmp 37) rfl wr w.heap.size (.slice A2 m2 c2) _ _ rfl rfl hH.out.1 hlen.out hH.out.2.1.size ?_
               intro v3 w3 ho3 hg3
               rw [Z.out] at ho3
               obtain ⟨A3, c3, e3, _, _⟩ := ho3.slc.slice
               generalize (zs ++ (be n j).take t ++ [n / pt % 256]).length = m3 at e3
               subst e3
               have b3 : Below w.heap.size w w3 := own_below (hH.out.1.keep (below_new _ _)) hg3 (hH.out.2.1.alloc hH.out.2.1.size _) (by have := hH.out.2.1.size; simp; omega)
               rw [List.append_assoc, ← E.out] at ho3
               have HO3 := veil ho3
               have HB3 := veil b3
               clear ho3 hg3 b3))
          go_roundw
          case rel => exact ⟨t + 1, _, _, _, _, by omega, by go_num, rfl, rfl, HO3.out, HB3.out, hnx.out⟩
          case measure => simp [intOf]; omega
        · have e : t = j := by omega
          subst e
          have HF : Hid (Own wr w.heap.size (.slice A2 m2 c2) (zs ++ be n t)) := by have := hH.out.1; rwa [List.take_of_length_le (by rw [be_length]; omega)] at this
          have HB := veil hH.out.2.1
          clear hH
          go_wp2_with fail
          go_ret
          exact ⟨A2, m2, c2, rfl, (slc_rd HF.out.slc).2.symm, HF.out, HB.out⟩

set_option maxHeartbeats 1000000 in
theorem refPut_lo (A : Option Addr) (m c : Nat) (zs : List Int) (n many : Int) (w : World) (hl : zs.length = m) (hm : m ≤ 16000000) (hr : Slc w (.slice A m c) zs) (hw : many < 1) (hn : 0 ≤ n ∧ n < 256 ^ 8) :
    Calls Try.prog 22 #[.slice A m c, .int .u64 n, .int .i64 many] w (Gives w (zs ++ be n 8)) := by
  obtain ⟨v1, w1, hr1, ho1, hg1, -⟩ := run_append_slc w w.heap.size 22 (.slice none 0 0) (.slice A m c) [] zs (own_nil _ _) hr (by simp; omega) (Nat.le_refl _)
  have b1 : Below w.heap.size w w1 := own_below (own_nil w w.heap.size) hg1 (Below.refl _ _) (Nat.le_refl _)
  have HR1 := veil hr1
  have HO1 := veil ho1
  have Hb1 := veil b1
  have HL := veil hl
  have HN := veil hn
  obtain ⟨A1, c1, e1, _, _⟩ := ho1.slc.slice
  generalize ([] ++ zs).length = m1 at e1
  subst e1
  clear hr1 ho1 hg1 b1 hr hl hn
  go_enter Try.func22, Try.ntmps22
  go_wp2_with (first | (at_builtin; refine wpList_append_run rfl (.const (.slice none 0 0)) (.tmp 17) rfl rfl rfl HR1.out ?_))
  clear HR1
  go_loopw [8, 9] (fun p i wr => ∃ j : Nat, 1 ≤ j ∧ j ≤ 8 ∧ i = .int .i64 j ∧ p = .int .u64 (256 ^ (j - 1)) ∧ wr = w1) (fun _ i _ => 8 - (intOf i).toNat)
  case atStart => exact ⟨1, by omega, by omega, rfl, rfl, rfl⟩
  case round =>
    obtain ⟨j, hj1, hj, rfl, rfl, rfl⟩ := hrel
    by_cases hlt : j < 8
    · have hp : ((256 ^ (j - 1) : Nat) : Int) = (256 : Int) ^ (j - 1) := by simp
      have hq : (256 : Nat) ^ (j - 1) ≤ 256 ^ 6 := Nat.pow_le_pow_right (by omega) (by omega)
      have hw : IntKind.u64.wrap ((256 : Int) ^ (j - 1) * 256) = 256 ^ j := by
        have e : (256 : Int) ^ j = 256 ^ (j - 1) * 256 := by rw [← Int.pow_succ]; congr 1; omega
        rw [e, IntKind.wrap_u64]
        have := pow_pos256 (j - 1)
        omega
      clear hp hq
      go_wp2_with fail
      go_roundw
      case rel => exact ⟨j + 1, by omega, by omega, by go_num, rfl, trivial⟩
      case measure => simp [intOf]; omega
    · have HJ := veil (show j = 8 by omega)
      have HA := veil (show Own wr w.heap.size (.slice A1 m1 c1) (zs ++ (be n 8).take 0) by simpa using HO1.out)
      clear HO1
      go_wp2_with fail
      go_loopw [7, 8, 10] (fun ou p i wr => ∃ (t m2 c2 : Nat) (A2 : Option Addr) (pt : Int), t ≤ 8 ∧ i = .int .i64 t ∧ p = .int .u64 pt ∧ ou = .slice A2 m2 c2 ∧ Hid (Own wr w.heap.size (.slice A2 m2 c2) (zs ++ (be n 8).take t) ∧ Below w.heap.size w wr ∧ (t < 8 → pt = 256 ^ (8 - 1 - t)))) (fun _ _ i _ => 8 - (intOf i).toNat)
      case atStart => exact ⟨0, _, _, _, _, Nat.zero_le _, rfl, rfl, rfl, HA.out, Hb1.out, fun _ => by rw [HJ.out]⟩
      case round =>
        obtain ⟨t, m2, c2, A2, pt, ht, rfl, rfl, rfl, hH⟩ := hrel
        clear HA Hb1
        by_cases hlt : t < 8
        · have hpt := hH.out.2.2 hlt
          have hpp : 0 < pt := by rw [hpt]; exact pow_pos256 _
          have hpz : ¬ pt = 0 := by omega
          have hnx : Hid (t + 1 < 8 → IntKind.u64.wrap (pt.tdiv 256) = 256 ^ (8 - 1 - (t + 1))) := fun h => by
            have e : 8 - 1 - t = (8 - 1 - (t + 1)) + 1 := by omega
            rw [Int.tdiv_eq_ediv_of_nonneg (by omega), hpt, e, Int.pow_succ, Int.mul_ediv_cancel _ (by omega)]
            exact wrap_pow _ (by omega)
          have E := veil (be_at n 8 t hlt)
          rw [← hpt] at E
          have Z := veil (quo_byte n pt HN.out.1 HN.out.2 hpp)
          have hlen : Hid ((zs ++ (be n 8).take t).length + 1 ≤ 16777216) := by simp [Hid, be_length]; have := HL.out; omega
          clear hpt
          go_wp2_with (first
            | (at_builtin
               refine wpList_byte rfl (.tmp 31) (.tmp 37) rfl wr w.heap.size (.slice A2 m2 c2) _ _ rfl rfl hH.out.1 hlen.out hH.out.2.1.size ?_
               intro v3 w3 ho3 hg3
               rw [Z.out] at ho3
               obtain ⟨A3, c3, e3, _, _⟩ := ho3.slc.slice
               generalize (zs ++ (be n 8).take t ++ [n / pt % 256]).length = m3 at e3
               subst e3
               have b3 : Below w.heap.size w w3 := own_below (hH.out.1.keep (below_new _ _)) hg3 (hH.out.2.1.alloc hH.out.2.1.size _) (by have := hH.out.2.1.size; simp; omega)
               rw [List.append_assoc, ← E.out] at ho3
               have HO3 := veil ho3
               have HB3 := veil b3
               clear ho3 hg3 b3))
          go_roundw
          case rel => exact ⟨t + 1, _, _, _, _, by omega, by go_num, rfl, rfl, HO3.out, HB3.out, hnx.out⟩
          case measure => simp [intOf]; omega
        · have e : t = 8 := by omega
          subst e
          have HF : Hid (Own wr w.heap.size (.slice A2 m2 c2) (zs ++ be n 8)) := by have := hH.out.1; rwa [List.take_of_length_le (by rw [be_length]; omega)] at this
          have HB := veil hH.out.2.1
          clear hH
          go_wp2_with fail
          go_ret
          exact ⟨A2, m2, c2, rfl, (slc_rd HF.out.slc).2.symm, HF.out, HB.out⟩

set_option maxHeartbeats 1000000 in
theorem refPut_hi (A : Option Addr) (m c : Nat) (zs : List Int) (n many : Int) (w : World) (hl : zs.length = m) (hm : m ≤ 16000000) (hr : Slc w (.slice A m c) zs) (hw : 8 < many) (hw1 : 1 ≤ many) (hn : 0 ≤ n ∧ n < 256 ^ 8) :
    Calls Try.prog 22 #[.slice A m c, .int .u64 n, .int .i64 many] w (Gives w (zs ++ be n 8)) := by
  obtain ⟨v1, w1, hr1, ho1, hg1, -⟩ := run_append_slc w w.heap.size 22 (.slice none 0 0) (.slice A m c) [] zs (own_nil _ _) hr (by simp; omega) (Nat.le_refl _)
  have b1 : Below w.heap.size w w1 := own_below (own_nil w w.heap.size) hg1 (Below.refl _ _) (Nat.le_refl _)
  have HR1 := veil hr1
  have HO1 := veil ho1
  have Hb1 := veil b1
  have HL := veil hl
  have HN := veil hn
  obtain ⟨A1, c1, e1, _, _⟩ := ho1.slc.slice
  generalize ([] ++ zs).length = m1 at e1
  subst e1
  clear hr1 ho1 hg1 b1 hr hl hn
  go_enter Try.func22, Try.ntmps22
  go_wp2_with (first | (at_builtin; refine wpList_append_run rfl (.const (.slice none 0 0)) (.tmp 17) rfl rfl rfl HR1.out ?_))
  clear HR1
  go_loopw [8, 9] (fun p i wr => ∃ j : Nat, 1 ≤ j ∧ j ≤ 8 ∧ i = .int .i64 j ∧ p = .int .u64 (256 ^ (j - 1)) ∧ wr = w1) (fun _ i _ => 8 - (intOf i).toNat)
  case atStart => exact ⟨1, by omega, by omega, rfl, rfl, rfl⟩
  case round =>
    obtain ⟨j, hj1, hj, rfl, rfl, rfl⟩ := hrel
    by_cases hlt : j < 8
    · have hp : ((256 ^ (j - 1) : Nat) : Int) = (256 : Int) ^ (j - 1) := by simp
      have hq : (256 : Nat) ^ (j - 1) ≤ 256 ^ 6 := Nat.pow_le_pow_right (by omega) (by omega)
      have hw : IntKind.u64.wrap ((256 : Int) ^ (j - 1) * 256) = 256 ^ j := by
        have e : (256 : Int) ^ j = 256 ^ (j - 1) * 256 := by rw [← Int.pow_succ]; congr 1; omega
        rw [e, IntKind.wrap_u64]
        have := pow_pos256 (j - 1)
        omega
      clear hp hq
      go_wp2_with fail
      go_roundw
      case rel => exact ⟨j + 1, by omega, by omega, by go_num, rfl, trivial⟩
      case measure => simp [intOf]; omega
    · have HJ := veil (show j = 8 by omega)
      have HA := veil (show Own wr w.heap.size (.slice A1 m1 c1) (zs ++ (be n 8).take 0) by simpa using HO1.out)
      clear HO1
      go_wp2_with fail
      go_loopw [7, 8, 10] (fun ou p i wr => ∃ (t m2 c2 : Nat) (A2 : Option Addr) (pt : Int), t ≤ 8 ∧ i = .int .i64 t ∧ p = .int .u64 pt ∧ ou = .slice A2 m2 c2 ∧ Hid (Own wr w.heap.size (.slice A2 m2 c2) (zs ++ (be n 8).take t) ∧ Below w.heap.size w wr ∧ (t < 8 → pt = 256 ^ (8 - 1 - t)))) (fun _ _ i _ => 8 - (intOf i).toNat)
      case atStart => exact ⟨0, _, _, _, _, Nat.zero_le _, rfl, rfl, rfl, HA.out, Hb1.out, fun _ => by rw [HJ.out]⟩
      case round =>
        obtain ⟨t, m2, c2, A2, pt, ht, rfl, rfl, rfl, hH⟩ := hrel
        clear HA Hb1
        by_cases hlt : t < 8
        · have hpt := hH.out.2.2 hlt
          have hpp : 0 < pt := by rw [hpt]; exact pow_pos256 _
          have hpz : ¬ pt = 0 := by omega
          have hnx : Hid (t + 1 < 8 → IntKind.u64.wrap (pt.tdiv 256) = 256 ^ (8 - 1 - (t + 1))) := fun h => by
            have e : 8 - 1 - t = (8 - 1 - (t + 1)) + 1 := by omega
            rw [Int.tdiv_eq_ediv_of_nonneg (by omega), hpt, e, Int.pow_succ, Int.mul_ediv_cancel _ (by omega)]
            exact wrap_pow _ (by omega)
          have E := veil (be_at n 8 t hlt)
          rw [← hpt] at E
          have Z := veil (quo_byte n pt HN.out.1 HN.out.2 hpp)
          have hlen : Hid ((zs ++ (be n 8).take t).length + 1 ≤ 16777216) := by simp [Hid, be_length]; have := HL.out; omega
          clear hpt
          go_wp2_with (first
            | (at_builtin
               refine wpList_byte rfl (.tmp 31) (.tmp 37) rfl wr w.heap.size (.slice A2 m2 c2) _ _ rfl rfl hH.out.1 hlen.out hH.out.2.1.size ?_
               intro v3 w3 ho3 hg3
               rw [Z.out] at ho3
               obtain ⟨A3, c3, e3, _, _⟩ := ho3.slc.slice
               generalize (zs ++ (be n 8).take t ++ [n / pt % 256]).length = m3 at e3
               subst e3
               have b3 : Below w.heap.size w w3 := own_below (hH.out.1.keep (below_new _ _)) hg3 (hH.out.2.1.alloc hH.out.2.1.size _) (by have := hH.out.2.1.size; simp; omega)
               rw [List.append_assoc, ← E.out] at ho3
               have HO3 := veil ho3
               have HB3 := veil b3
               clear ho3 hg3 b3))
          go_roundw
          case rel => exact ⟨t + 1, _, _, _, _, by omega, by go_num, rfl, rfl, HO3.out, HB3.out, hnx.out⟩
          case measure => simp [intOf]; omega
        · have e : t = 8 := by omega
          subst e
          have HF : Hid (Own wr w.heap.size (.slice A2 m2 c2) (zs ++ be n 8)) := by have := hH.out.1; rwa [List.take_of_length_le (by rw [be_length]; omega)] at this
          have HB := veil hH.out.2.1
          clear hH
          go_wp2_with fail
          go_ret
          exact ⟨A2, m2, c2, rfl, (slc_rd HF.out.slc).2.symm, HF.out, HB.out⟩

theorem refPut_no (A : Option Addr) (m c : Nat) (zs : List Int) (n many : Int) (w : World) (hl : zs.length = m) (hm : m ≤ 16000000) (hr : Slc w (.slice A m c) zs) (hw : many < 1 ∨ 8 < many) (hn : 0 ≤ n ∧ n < 256 ^ 8) :
    Calls Try.prog 22 #[.slice A m c, .int .u64 n, .int .i64 many] w (Gives w (zs ++ be n 8)) := by
  by_cases h : many < 1
  · exact refPut_lo A m c zs n many w hl hm hr h hn
  · exact refPut_hi A m c zs n many w hl hm hr (by omega) (by omega) hn

end Go.Proofs.Ytddmjenhpbbocaa
