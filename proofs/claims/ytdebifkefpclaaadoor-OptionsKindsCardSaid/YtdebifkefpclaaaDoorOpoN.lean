/-
  Names: their parts, whether a text is one, and its bytes, by the code.
  Conditions: texts of at most 16000000 bytes; the library's cell holds a number.
-/
import Derived.Test.YtdebifkefpclaaaDoorOpoJ
import Derived.Test.YtdebifkefpclaaaDoorShelf
import Derived.Lib.AppendStr
import Derived.Laws.RangeAny
namespace Go.Proofs.YtdebifkefpclaaaDoor.Oz
set_option maxRecDepth 100000
open Go.RowKit Ops

abbrev Str := List UInt8
/-- a string of these bytes -/
def bs (s : Str) : ByteArray := ⟨s.toArray⟩
theorem bs_size (s : Str) : (bs s).size = s.length := by simp [bs, ByteArray.size]
theorem bs_data (s : Str) : (bs s).data.toList = s := by simp [bs]
theorem bs_of (x : ByteArray) : x = bs x.data.toList := by
  apply ByteArray.ext
  simp [bs]
theorem bs_at (s : Str) (i : Nat) (h : i < (bs s).size) : (bs s)[i]'h = s[i]'(by rw [bs_size] at h; exact h) := by
  show (bs s).data[i]'_ = _
  simp [bs]
theorem index_str (s : Str) {i : Nat} (hi : i < s.length) (u : World) : (Instr.index 9 (.string (bs s)) (.int .i64 i)).run Tryd.prog u = .ok (.int .u8 ((s.getD i 0).toNat : Int)) u := by
  have hi' : i < (bs s).size := by rw [bs_size]; exact hi
  have e : s.getD i 0 = (bs s)[i]'hi' := by
    rw [bs_at]
    simp [List.getD, hi]
  rw [e]
  simp [Instr.index, run_underlying Tryd.underlying9, asIntOf, hi', go_sem]
/-- the library's cell -/
def Mx (w : World) : Prop := ∃ m, w.cell? ⟨0, 0, none⟩ = some (.int .i64 m)
theorem Mx.keep {w w' : World} (h : Mx w) (q : Below w.heap.size w w') : Mx w' := by
  obtain ⟨m, hm⟩ := h
  exact ⟨m, cell_keep hm q⟩

/-- may this byte be in a name's part? -/
def inP (c : Nat) : Bool := (decide (97 ≤ c) && decide (c ≤ 122)) || (decide (48 ≤ c) && decide (c ≤ 57)) || decide (c = 45)
def partOk (s : Str) : Bool := s.all (fun c => inP c.toNat) && (decide (1 ≤ s.length) && decide (s.length ≤ 63))
def dotS : Str := [46]
def partsB (s : Str) : List ByteArray := Lib.splitB (bs dotS) 0 (Lib.countB (bs s) (bs dotS)) (bs s)
/-- a text's parts -/
def parts (s : Str) : List Str := (partsB s).map (·.data.toList)
def nameOk (s : Str) : Bool := decide (s.length ≤ 253) && (parts s).all partOk
def bytesOf (s : Str) : List Int := s.map fun c => (c.toNat : Int)
/-- a name's bytes -/
def nameB (s : Str) : List Int := (parts s).flatMap (fun p => ((p.length : Int) % 256) :: bytesOf p) ++ [0]

set_option linter.unusedSimpArgs false in
set_option maxHeartbeats 2000000 in
theorem inPart_any (c : Nat) (w : World) (hc : c < 256) : Calls Tryd.prog 105 #[.int .u8 (c : Int)] w fun e w' => e = .returned (.bool (inP c)) ∧ w = w' := by
  have HC := veil (show inP c = ((decide (97 ≤ c) && decide (c ≤ 122)) || (decide (48 ≤ c) && decide (c ≤ 57)) || decide (c = 45)) from rfl)
  generalize inP c = z at *
  go_enter Tryd.func105, Tryd.ntmps105
  go_wp2
  all_goals go_ret
  all_goals refine ⟨?_, rfl⟩
  all_goals rw [HC.out]
  all_goals refine congrArg (fun z : Bool => Ending.returned (Value.bool z)) ?_
  all_goals (rw [Bool.eq_iff_iff]; simp; omega)

theorem all_get {s : Str} {n : Nat} (hn : s.length = n) (h : ∀ i, i < n → inP (s.getD i 0).toNat = true) : s.all (fun c => inP c.toNat) = true := by
  rw [List.all_eq_true]
  intro c hc
  obtain ⟨i, hi, e⟩ := List.getElem_of_mem hc
  have := h i (by omega)
  rw [show s.getD i 0 = c by simp [List.getD, hi, e]] at this
  exact this
theorem all_miss {s : Str} {i : Nat} (hi : i < s.length) (h : inP (s.getD i 0).toNat = false) : s.all (fun c => inP c.toNat) = false := by
  rw [List.all_eq_false]
  refine ⟨s[i], List.getElem_mem hi, ?_⟩
  rw [show s.getD i 0 = s[i] by simp [List.getD, hi]] at h
  simpa using h

set_option linter.unusedSimpArgs false in
set_option maxHeartbeats 2000000 in
theorem isPart_any (s : Str) (w : World) (hn : s.length ≤ 16000000) : Calls Tryd.prog 99 #[.string (bs s)] w fun e w' => e = .returned (.bool (partOk s)) ∧ w = w' := by
  obtain ⟨n, hsn⟩ : ∃ n, s.length = n := ⟨_, rfl⟩
  have HN := veil hsn
  have hlen : (bs s).size = n := by rw [bs_size, hsn]
  have i1 : (n : Int) ≤ 16000000 := by omega
  clear hsn
  go_enter Tryd.func99, Tryd.ntmps99
  go_wp2_with fail
  go_loopw [6] (fun s6 wr => ∃ j : Nat, j ≤ n ∧ s6 = .int .i64 j ∧ Hid (w = wr) ∧ Hid (∀ i, i < j → inP (s.getD i 0).toNat = true)) (fun s6 _ => n - (intOf s6).toNat)
  case atStart => exact ⟨0, Nat.zero_le _, rfl, veil rfl, veil (fun i h => by omega)⟩
  case round =>
    rename World => wr
    obtain ⟨j, hj, rfl, hw, hA⟩ := hrel
    obtain rfl : w = wr := hw.out
    clear hw
    by_cases hlt : j < n
    · have ij : (j : Int) < (n : Int) := by omega
      have hix := fun u => index_str s (i := j) (by rw [HN.out]; exact hlt) u
      have K := veil (inPart_any (s.getD j 0).toNat w (UInt8.toNat_lt _))
      obtain ⟨z, hz⟩ : ∃ z, inP (s.getD j 0).toNat = z := ⟨_, rfl⟩
      have HZ := veil hz
      rw [hz] at K
      obtain ⟨cc, hcc⟩ : ∃ x, (s.getD j 0).toNat = x := ⟨_, rfl⟩
      have HCC := veil hcc
      rw [hcc] at K
      simp only [hcc] at hix
      clear hz hcc
      cases z
      · have hf : Hid (partOk s = false) := veil (by unfold partOk; rw [all_miss (by rw [HN.out]; exact hlt) HZ.out]; rfl)
        go_wp2_with fail
        refine (K.out).mono ?_
        rintro e w2 ⟨rfl, rfl⟩
        clear K
        go_wp2_with fail
        go_ret
        rw [hf.out]
        exact ⟨rfl, rfl⟩
      · go_wp2_with fail
        refine (K.out).mono ?_
        rintro e w2 ⟨rfl, rfl⟩
        clear K
        go_wp2_with fail
        go_roundw
        case rel => exact ⟨j + 1, by omega, by go_num, veil (by first | trivial | rfl), veil (fun i hi => by
          by_cases e : i < j
          · exact hA.out i e
          · obtain rfl : i = j := by omega
            exact HZ.out)⟩
        case measure => simp [intOf]; omega
    · obtain rfl : j = n := by omega
      have ij : ¬ (j : Int) < (j : Int) := by omega
      have hf : Hid (partOk s = (decide (1 ≤ j) && decide (j ≤ 63))) := veil (by unfold partOk; rw [all_get HN.out hA.out, HN.out]; rfl)
      clear hA
      go_wp2
      all_goals go_ret
      all_goals refine ⟨?_, rfl⟩
      all_goals refine congrArg (fun z : Bool => Ending.returned (Value.bool z)) ?_
      all_goals rw [hf.out]
      all_goals (rw [Bool.eq_iff_iff]; simp; omega)

theorem parts_len (s : Str) : (partsB s).length = Lib.countB (bs s) (bs dotS) + 1 := Lib.splitB_all _ (by rw [bs_size]; decide) 0 _ _ rfl
theorem parts_many (s : Str) : (partsB s).length ≤ s.length + 1 := by
  rw [parts_len]
  have := Lib.countB_le (bs dotS) (by rw [bs_size]; decide) (bs s).size (bs s) (Nat.le_refl _)
  rw [bs_size] at this
  omega
theorem split_any (s : Str) (w : World) (hs : s.length ≤ 16000000) (hm : Mx w) :
    Calls Tryd.prog 98 #[.string (bs s), .string (bs dotS)] w fun e w' => ∃ g n, w.heap.size ≤ g ∧ n = (partsB s).length ∧ e = .returned (.slice (some ⟨g, 0, none⟩) n n) ∧ Row w' g 9 ((partsB s).map Value.string).toArray ∧ Below w.heap.size w w' := by
  obtain ⟨m, hm⟩ := hm
  refine (Tryd.strings_Split (bs s) (bs dotS) m w (by rw [bs_size]; omega) hm (by rw [bs_size]; decide)).mono ?_
  rintro e w' ⟨rfl, rfl⟩
  exact ⟨w.heap.size, _, Nat.le_refl _, rfl, by rw [parts_len], row_new rfl, below_new _ _⟩

end Go.Proofs.YtdebifkefpclaaaDoor.Oz
