/-
  What strconv.FormatUint answers at base 16, and written: groups with a colon between each two.
  Conditions: numbers below 65536, at most eight of them; the library's table lies where it should.
-/
import Derived.Test.YtfaaogidbpfelaaDoorTxtI
import Derived.Test.YtfaaogidbpfelaaDoorTxtS
import Derived.Test.YtfaaogidbpfelaaDoorTxtQ
namespace Go.Proofs.YtfaaogidbpfelaaDoor.Tx
open Go.RowKit Ad

theorem fmtIn_any (n : Nat) (w : World) (hn : n < 65536) (hd : Db w) : Calls Tryd.prog 35 #[.int .u64 n, .int .i64 16] w fun e w' => e = .returned (.string (bs (hex n))) ∧ Below w.heap.size w w' := by
  have K := veil (formatBits_any n w hn hd)
  clear hd
  go_enter Tryd.func35, Tryd.ntmps35
  go_wp2_with fail
  refine (K.out).mono ?_
  rintro e w1 ⟨rfl, hb⟩
  have hb := veil hb
  go_wp2_with fail
  go_ret
  exact ⟨rfl, hb.out⟩
theorem fmt_any (n : Nat) (w : World) (hn : n < 65536) (hd : Db w) : Calls Tryd.prog 27 #[.int .u64 n, .int .i64 16] w fun e w' => e = .returned (.string (bs (hex n))) ∧ Below w.heap.size w w' := by
  have K := veil (fmtIn_any n w hn hd)
  clear hd
  go_enter Tryd.func27, Tryd.ntmps27
  go_wp2_with fail
  refine (K.out).mono ?_
  rintro e w1 ⟨rfl, hb⟩
  have hb := veil hb
  go_wp2_with fail
  go_ret
  exact ⟨rfl, hb.out⟩

def shalf (ws : List Str) (j : Nat) : List Str := ws.take j ++ List.replicate (ws.length - j) []
theorem shalf_len (ws : List Str) {j : Nat} (hj : j ≤ ws.length) : (shalf ws j).length = ws.length := by simp [shalf]; omega
theorem shalf_set (ws : List Str) {j : Nat} (hj : j < ws.length) : (shalf ws j).set j (ws.getD j []) = shalf ws (j + 1) := by
  have ht : ws.take (j + 1) = ws.take j ++ [ws.getD j []] := by
    rw [List.take_add_one]
    simp [List.getD, hj]
  have hl : (ws.take j).length = j := by simp; omega
  unfold shalf
  rw [ht]
  obtain ⟨k, hk⟩ : ∃ k, ws.length - j = k + 1 := ⟨ws.length - j - 1, by omega⟩
  have hk2 : ws.length - (j + 1) = k := by omega
  rw [hk, hk2]
  generalize ws.getD j [] = x
  generalize ws.take j = l at *
  simp [hl, List.replicate_succ]
theorem shalf_end (ws : List Str) : shalf ws ws.length = ws := by simp [shalf]
theorem sv_set (l : List Str) (j : Nat) (s : Str) : (sv l).toArray.setIfInBounds j (.string (bs s)) = (sv (l.set j s)).toArray := by
  simp [sv, List.map_set]
theorem run_make_str (n : Nat) (hn : n ≤ 1000) (u : World) : (Instr.makeSlice 58 (.int .i64 n) (.int .i64 n)).run Tryd.prog u = .ok (.slice (some ⟨u.heap.size, 0, none⟩) n n) (u.alloc (.cells (sv (List.replicate n [])).toArray 9)) := by
  obtain ⟨i, hi, hz0, hz1, hz2⟩ := info_parts info_str
  have h := run_make (P := Tryd.prog) u 58 9 i (.string ⟨#[]⟩) Tryd.underlying58 hi hz0 .i64 .i64 n n (by omega) (by omega) (by rw [hz2]; omega) (by omega)
  have e : madeCells #[.string ⟨#[]⟩] n = (sv (List.replicate n [])).toArray := by
    apply Array.ext'
    rw [toList_madeCells_one]
    simp [sv, bs]
  simpa [hz1, Value.cells, e] using h
theorem ints_at {gs : List Nat} {j : Nat} (h : j < gs.length) : (ints gs).getD j 0 = ((gs.getD j 0 : Nat) : Int) := by
  simp [ints, List.getD, h]

/-- strings.Join of words in a row, with a colon between each two -/
theorem join_any (ws : List Str) (g : Nat) (w : World) (hr : Row w g 9 (sv ws).toArray) (hl : (J ws).length ≤ 140737488355328) (hn : ws.length ≤ 1000) : Calls Tryd.prog 28 #[.slice (some ⟨g, 0, none⟩) ws.length ws.length, .string ⟨#[58]⟩] w fun e w' => e = .returned (.string (bs (J ws))) ∧ Below w.heap.size w w' := by
  have e1 : (ws.map bs).map (·.data.toList) = ws := by
    rw [List.map_map]
    conv => rhs; rw [← List.map_id ws]
    apply List.map_congr_left
    intro a _
    exact bs_data a
  have h := Tryd.strings_Join g 0 ws.length (ws.map bs) ⟨#[58]⟩ w (by
      intro j x hx
      have hj : j < ws.length := by have := (List.getElem?_eq_some_iff.1 hx).1; simpa using this
      rw [Nat.zero_add, hr.cell, List.getElem?_toArray, sv, List.getElem?_map]
      rw [List.getElem?_map] at hx
      cases hw : ws[j]? with
      | none => rw [hw] at hx; cases hx
      | some s =>
        rw [hw] at hx
        simp at hx ⊢
        exact hx) hr.lt (by simp; omega) (by simp) (by rw [e1]; exact hl)
  rw [e1, List.length_map] at h
  exact h

set_option maxRecDepth 100000 in
set_option maxHeartbeats 2000000 in
theorem written_any (gs : List Nat) (A : Option Addr) (n c : Nat) (w : World) (hR : W16.Rd w A (ints gs)) (hl : gs.length = n) (hn : n ≤ 8) (hg : ∀ g ∈ gs, g < 65536) (hd : Db w) :
    Calls Tryd.prog 19 #[.slice A n c] w fun e w' => e = .returned (.string (bs (written gs))) ∧ Below w.heap.size w w' := by
  have hmk := run_make_str n (by omega) w
  obtain ⟨ws, hws⟩ : ∃ ws, gs.map hex = ws := ⟨_, rfl⟩
  have hwl : ws.length = n := by rw [← hws]; simp [hl]
  have hwr : written gs = J ws := by rw [← hws]; rfl
  have hJ : (J ws).length ≤ 140737488355328 := by rw [← hwr]; have := written_len gs; omega
  have hat : ∀ j, j < n → ws.getD j [] = hex (gs.getD j 0) := fun j hj => by rw [← hws]; simp [List.getD, hl, hj]
  have e0 : List.replicate n [] = shalf ws 0 := by simp [shalf, hwl]
  rw [e0] at hmk
  have r0 := row_new (w := w) (g := w.heap.size) (cs := (sv (shalf ws 0)).toArray) (t := 9) rfl
  have q0 := below_new w (.cells (sv (shalf ws 0)).toArray 9)
  obtain ⟨w1, hw1⟩ : ∃ w1, w.alloc (.cells (sv (shalf ws 0)).toArray 9) = w1 := ⟨_, rfl⟩
  rw [hw1] at hmk r0 q0
  rw [hwr]
  have R0 := veil r0
  have Q0 := veil q0
  have HR := veil hR
  have HD := veil hd
  have HG := veil hg
  have HL := veil hl
  have HA := veil hat
  have HJ := veil hJ
  have HW := veil hwl
  clear r0 q0 hR hd hg hat hJ hwr hws e0 hw1
  go_enter Tryd.func19, Tryd.ntmps19
  go_wp2_with fail
  clear hmk
  go_loopw [11] (fun i wr => ∃ j : Nat, j ≤ n ∧ i = .int .i64 j ∧ Hid (Row wr w.heap.size 9 (sv (shalf ws j)).toArray ∧ Below w.heap.size w wr)) (fun i _ => n - (intOf i).toNat)
  case atStart => exact ⟨0, by omega, rfl, R0.out, Q0.out⟩
  case round =>
    clear R0 Q0
    obtain ⟨j, hj, rfl, hH⟩ := hrel
    obtain ⟨hr, hb⟩ := hH.out
    by_cases hlt : j < n
    · obtain ⟨a, rfl, hc⟩ := HR.out j (by rw [ints_len, HL.out]; exact hlt)
      rw [ints_at (by omega)] at hc
      have hc : wr.cell? (a.add j) = some (.int .u16 ((gs.getD j 0 : Nat) : Int)) := by rw [hb.cell (block_lt_of_cell hc), hc]
      have hgl : gs.getD j 0 < 65536 := HG.out _ (by simp [List.getD, HL.out, hlt])
      have K := veil (fmt_any (gs.getD j 0) wr hgl (HD.out.keep hb))
      have HS : Hid (shalf ws (j + 1) = (shalf ws j).set j (hex (gs.getD j 0))) := by
        unfold Hid
        rw [← HA.out j hlt, shalf_set ws (by rw [HW.out]; exact hlt)]
      have hcs : (sv (shalf ws j)).toArray[j]? = some (.string (bs ((shalf ws j).getD j []))) := by
        rw [List.getElem?_toArray]
        exact sv_get _ j (by rw [shalf_len ws (by rw [HW.out]; omega), HW.out]; exact hlt)
      have RR := veil hr
      have BB := veil hb
      have HC := veil hcs
      generalize gs.getD j 0 = x at *
      have hx : (x : Int) ≤ 65535 := by omega
      have hj' : (j : Int) < n := by omega
      have p1 : ¬ ((j : Int) < 0) := by omega
      have p3 : (j : Int).toNat = j := by omega
      clear hH hr hb hcs
      go_wp2_with fail
      refine (K.out).mono ?_
      rintro e w2 ⟨rfl, q⟩
      have R2 := RR.out.keep q
      have B2 := BB.out.trans (q.mono BB.out.size)
      have c2 : w2.cell? ⟨w.heap.size, j, none⟩ = some (.string (bs ((shalf ws j).getD j []))) := by rw [R2.cell, HC.out]
      have f2 : w2.frozen? ⟨w.heap.size, j, none⟩ = false := R2.frozen _
      have R3 := R2.set j (.string (bs (hex x)))
      rw [sv_set, ← HS.out] at R3
      have R3 := veil R3
      have B3 := veil (B2.setCell (p := ⟨w.heap.size, j, none⟩) (by simp) (.string (bs (hex x))))
      generalize bs ((shalf ws j).getD j []) = z at c2
      clear R2 B2 q K RR BB hc HC HS
      go_wp2_with fail
      go_roundw
      case rel => exact ⟨j + 1, by omega, by go_num, R3.out, B3.out⟩
      case measure => simp [intOf]; omega
    · obtain rfl : j = n := by omega
      have K := veil (join_any ws w.heap.size wr (by
        have := hr
        rwa [show shalf ws j = ws by rw [← HW.out, shalf_end]] at this) HJ.out (by rw [HW.out]; omega))
      rw [HW.out] at K
      have BB := veil hb
      clear hH hr hb
      go_wp2_with fail
      refine (K.out).mono ?_
      rintro e w2 ⟨rfl, q⟩
      have B2 := veil (BB.out.trans (q.mono BB.out.size))
      clear q
      go_wp2_with fail
      go_ret
      exact ⟨rfl, B2.out⟩
end Go.Proofs.YtfaaogidbpfelaaDoor.Tx
