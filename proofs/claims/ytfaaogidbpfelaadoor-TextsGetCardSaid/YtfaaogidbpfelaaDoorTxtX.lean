/-
  The reference's split: what stands between bytes, as a list of its own.
  Conditions: texts of at most 1000 bytes.
-/
import Derived.Test.YtfaaogidbpfelaaDoorTxtV
namespace Go.Proofs.YtfaaogidbpfelaaDoor.Tx
open Go.RowKit Ad

/-- strings of the call's own, and nothing that was there has changed -/
def GivesS (w : World) (ls : List Str) (e : Ending) (w' : World) : Prop := ∃ A m c, e = .returned (.slice A m c) ∧ m = ls.length ∧ SOwn w' w.heap.size (.slice A m c) ls ∧ Below w.heap.size w w'
theorem slice_mid (s : Str) {i j : Nat} (hi : i ≤ j) (hj : j ≤ s.length) (u : World) : (Instr.sliceAt 9 (.string (bs s)) (some (.int .i64 i)) (some (.int .i64 j)) none).run Tryd.prog u = .ok (.string (bs ((s.drop i).take (j - i)))) u := by
  have h1 : (j : Int) ≤ (s.length : Int) := by omega
  have h3 : (i : Int) ≤ (j : Int) := by omega
  have h2 := bs_cut s i j
  simp [Instr.sliceAt, run_underlying Tryd.underlying9, go_sem, bs_size, h1, h2, h3]
theorem drop_split {s : Str} {f j : Nat} (hf : f ≤ j) (hj : j < s.length) : s.drop f = (s.drop f).take (j - f) ++ s.getD j 0 :: s.drop (j + 1) := by
  conv => lhs; rw [← List.take_append_drop (j - f) (s.drop f)]
  rw [List.drop_drop, show f + (j - f) = j by omega, List.drop_eq_getElem_cons hj]
  simp only [List.getD, List.getElem?_eq_getElem hj, Option.getD_some]
theorem take_more {s : Str} {f j : Nat} (hf : f ≤ j) (hj : j < s.length) : (s.drop f).take (j + 1 - f) = (s.drop f).take (j - f) ++ [s.getD j 0] := by
  rw [show j + 1 - f = (j - f) + 1 by omega, List.take_add_one, List.getElem?_drop, show f + (j - f) = j by omega]
  simp [List.getD, hj]
/-- how far a text is split -/
def SpAt (c : UInt8) (s : Str) (ls : List Str) (f j : Nat) : Prop := (j ≤ s.length → f ≤ j ∧ ls ++ words c (s.drop f) = words c s ∧ c ∉ (s.drop f).take (j - f)) ∧ (s.length < j → ls = words c s) ∧ ls.length ≤ j
theorem sp_end {c : UInt8} {s : Str} {ls : List Str} {f : Nat} (h : SpAt c s ls f s.length) : SpAt c s (ls ++ [(s.drop f).take (s.length - f)]) (s.length + 1) (s.length + 1) := by
  obtain ⟨h1, _, h3⟩ := h
  obtain ⟨hf, e, hc⟩ := h1 (Nat.le_refl _)
  have et : (s.drop f).take (s.length - f) = s.drop f := List.take_of_length_le (by simp)
  rw [et] at hc ⊢
  rw [words_none hc] at e
  exact ⟨fun h => by omega, fun _ => e, by simp; omega⟩
theorem sp_cut {c : UInt8} {s : Str} {ls : List Str} {f j : Nat} (h : SpAt c s ls f j) (hj : j < s.length) (hx : s.getD j 0 = c) : SpAt c s (ls ++ [(s.drop f).take (j - f)]) (j + 1) (j + 1) := by
  obtain ⟨h1, _, h3⟩ := h
  obtain ⟨hf, e, hc⟩ := h1 (by omega)
  have ed := drop_split hf hj
  rw [hx] at ed
  have ew : words c (s.drop f) = (s.drop f).take (j - f) :: words c (s.drop (j + 1)) := by
    conv => lhs; rw [ed]
    exact words_app hc _
  rw [ew] at e
  exact ⟨fun _ => ⟨Nat.le_refl _, by rw [← e]; simp, by simp⟩, fun h => by omega, by simp; omega⟩
theorem sp_on {c : UInt8} {s : Str} {ls : List Str} {f j : Nat} (h : SpAt c s ls f j) (hj : j < s.length) (hx : s.getD j 0 ≠ c) : SpAt c s ls f (j + 1) := by
  obtain ⟨h1, _, h3⟩ := h
  obtain ⟨hf, e, hc⟩ := h1 (by omega)
  refine ⟨fun _ => ⟨by omega, e, ?_⟩, fun h => by omega, by omega⟩
  rw [take_more hf hj]
  simp only [List.mem_append, List.mem_singleton, not_or]
  exact ⟨hc, fun e => hx e.symm⟩

set_option maxRecDepth 100000 in
set_option maxHeartbeats 2000000 in
theorem split_any (c : UInt8) (s : Str) (w : World) (hs : s.length ≤ 1000) : Calls Tryd.prog 32 #[.string (bs s), .int .u8 (c.toNat : Int)] w (GivesS w (words c s)) := by
  have hsz := bs_size s
  obtain ⟨n, hn⟩ : ∃ n, s.length = n := ⟨_, rfl⟩
  rw [hn] at hsz hs
  have HN := veil hn
  have H0 : Hid (SpAt c s [] 0 0) := ⟨fun _ => ⟨Nat.le_refl _, by simp, by simp⟩, fun h => by omega, by simp⟩
  have hs' : (n : Int) ≤ 1000 := by omega
  have HS := veil (show n ≤ 1000 from hs)
  clear hn hs
  go_enter Tryd.func32, Tryd.ntmps32
  go_wp2_with fail
  go_loopw [5, 6, 7] (fun l fr i wr => ∃ (A : Option Addr) (m d f j : Nat) (ls : List Str), j ≤ n + 1 ∧ f ≤ n + 1 ∧ l = .slice A m d ∧ fr = .int .i64 f ∧ i = .int .i64 j ∧ Hid (m = ls.length ∧ SpAt c s ls f j ∧ SOwn wr w.heap.size (.slice A m d) ls ∧ Below w.heap.size w wr)) (fun _ _ i _ => n + 1 - (intOf i).toNat)
  case atStart => exact ⟨none, 0, 0, 0, 0, [], by omega, by omega, rfl, rfl, rfl, rfl, H0.out, sown_nil _ _, Below.refl _ _⟩
  case round =>
    clear H0
    obtain ⟨A, m, d, f, j, ls, hj, hf, rfl, rfl, rfl, hH⟩ := hrel
    obtain ⟨hm, hP, hO, hB⟩ := hH.out
    have hs : n ≤ 1000 := HS.out
    have hnl : s.length = n := HN.out
    by_cases hlt : j ≤ n
    · obtain ⟨hfj, _, _⟩ := hP.1 (by omega)
      have hll := hP.2.2
      have sl := slice_mid s hfj (by omega : j ≤ s.length)
      obtain ⟨T, hT⟩ : ∃ T, (s.drop f).take (j - f) = T := ⟨_, rfl⟩
      rw [hT] at sl
      obtain ⟨v', w3, H3, hO3, hgb⟩ := run_append_str wr w.heap.size 58 (.slice A m d) ls T hO (by omega) hB.size
      obtain ⟨A', d', e'⟩ := hO3.slice
      rw [show (ls ++ [T]).length = m + 1 by simp [hm]] at e'
      subst e'
      have hq2 := below_new wr (.cells #[.string (bs T)] 9)
      have hB3 := sown_below (W := w) (hO.keep hq2) hgb (hB.trans (hq2.mono hB.size)) (by have := hB.size; simp; omega)
      have HA := veil H3
      have hj' : (j : Int) ≤ n := by omega
      have s1 : IntKind.i64.wrap ((j : Int) + 1) = ((j + 1 : Nat) : Int) := by rw [IntWalk.i64_in _ (by omega)]; omega
      by_cases he : j = n
      · have hP2 := sp_end (hnl ▸ he ▸ hP : SpAt c s ls f s.length)
        rw [hnl, ← he, hT] at hP2
        have HR := veil (show m + 1 = (ls ++ [T]).length ∧ SpAt c s (ls ++ [T]) (j + 1) (j + 1) ∧ SOwn w3 w.heap.size (.slice A' (m + 1) d') (ls ++ [T]) ∧ Below w.heap.size w w3 from ⟨by simp [hm], hP2, hO3, hB3⟩)
        have hq : ((j : Int) = (n : Int)) = True := by rw [he]; simp
        clear hH hm hP hO hB H3 hO3 hgb hq2 hB3 hP2 hT hll hs hnl he
        go_wp2_with (first
          | (at_builtin
             refine Ops.wpList_append_w rfl (.tmp 25) (.tmp 30) rfl rfl rfl HA.out ?_))
        go_roundw
        case rel => exact ⟨A', m + 1, d', j + 1, j + 1, ls ++ [T], by omega, by omega, rfl, by go_num, by go_num, HR.out⟩
        case measure => simp [intOf]; omega
      · have hlt2 : j < s.length := by omega
        have hix := fun u => index_str s hlt2 u
        have hq : ((j : Int) = (n : Int)) = False := eq_false (by omega)
        by_cases hx : s.getD j 0 = c
        · have hP2 := sp_cut hP hlt2 hx
          rw [hT] at hP2
          rw [hx] at hix
          have HR := veil (show m + 1 = (ls ++ [T]).length ∧ SpAt c s (ls ++ [T]) (j + 1) (j + 1) ∧ SOwn w3 w.heap.size (.slice A' (m + 1) d') (ls ++ [T]) ∧ Below w.heap.size w w3 from ⟨by simp [hm], hP2, hO3, hB3⟩)
          clear hH hm hP hO hB H3 hO3 hgb hq2 hB3 hP2 hT hll hs hnl he hlt2 hx
          generalize c.toNat = x at *
          go_wp2_with (first
            | (at_builtin
               refine Ops.wpList_append_w rfl (.tmp 25) (.tmp 30) rfl rfl rfl HA.out ?_))
          go_roundw
          case rel => exact ⟨A', m + 1, d', j + 1, j + 1, ls ++ [T], by omega, by omega, rfl, by go_num, by go_num, HR.out⟩
          case measure => simp [intOf]; omega
        · have hP2 := sp_on hP hlt2 hx
          have hne : ¬ ((s.getD j 0).toNat : Int) = (c.toNat : Int) := fun e => hx (UInt8.toNat_inj.1 (by omega))
          have HR := veil (show m = ls.length ∧ SpAt c s ls f (j + 1) ∧ SOwn wr w.heap.size (.slice A m d) ls ∧ Below w.heap.size w wr from ⟨hm, hP2, hO, hB⟩)
          generalize (s.getD j 0).toNat = y at *
          clear hH hm hP hO hB H3 hO3 hgb hq2 hB3 hP2 hT hll hs hnl he hlt2 hx HA sl
          generalize c.toNat = x at *
          have b1 : ((j : Int) == (n : Int)) = false := by simp [hq]
          have b2 : ((y : Int) == (x : Int)) = false := by simp [hne]
          go_wp2_with fail
          go_roundw
          case rel => exact ⟨A, m, d, f, j + 1, ls, by omega, by omega, rfl, rfl, by go_num, HR.out⟩
          case measure => simp [intOf]; omega
    · have hE := hP.2.1 (by omega)
      subst hE
      have HR := veil (show m = (words c s).length ∧ SOwn wr w.heap.size (.slice A m d) (words c s) ∧ Below w.heap.size w wr from ⟨hm, hO, hB⟩)
      have hj' : ¬ (j : Int) ≤ n := by omega
      clear hH hm hP hO hB hs hnl
      go_wp2_with fail
      go_ret
      exact ⟨A, m, d, rfl, HR.out.1, HR.out.2.1, HR.out.2.2⟩
end Go.Proofs.YtfaaogidbpfelaaDoor.Tx
