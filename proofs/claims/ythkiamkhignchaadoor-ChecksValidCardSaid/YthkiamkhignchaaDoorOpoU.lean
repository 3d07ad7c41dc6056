/-
  A list of options, opened; how great one is.
  Conditions: none.
-/
import Derived.Test.YthkiamkhignchaaDoorOpoX
import Derived.Test.YthkiamkhignchaaDoorOpenG
import Derived.Test.YthkiamkhignchaaDoorOpen
namespace Go.Proofs.YthkiamkhignchaaDoor.Oz
set_option maxRecDepth 100000
open Go.RowKit Ops

theorem off_add (a : Addr) (n : Nat) : (a.add n).off = a.off + n := by
  unfold Addr.add
  split
  · subst_vars
    rfl
  · rfl
theorem add_field (a : Addr) (n k : Nat) (hk : 0 < k) : a.add (n + k) = ⟨(a.add n).block, (a.add n).off + k, none⟩ := by
  rw [block_add, off_add]
  unfold Addr.add
  rw [if_neg (by omega), Nat.add_assoc]
theorem cells_opt : Tryd.prog.cellsOf 46 = 2 := by kernel_rfl
theorem cells_u8 : Tryd.prog.cellsOf 5 = 1 := by kernel_rfl
theorem cells_bytes : Tryd.prog.cellsOf 28 = 1 := by kernel_rfl

/-- options as a caller hands them in -/
structure Fine (os : List (Int × List Int)) : Prop where
  k : ∀ o ∈ os, 0 ≤ o.1 ∧ o.1 ≤ 255
  z : ∀ o ∈ os, Byt o.2
  n : ∀ o ∈ os, o.2.length ≤ 140737488355328
theorem slc_of_rd {w : World} {A : Option Addr} {c : Nat} {zs : List Int} (hr : Rd w A zs) (hc : zs.length ≤ c) (hn : A = none → c = 0) : Slc w (.slice A zs.length c) zs := by
  cases A with
  | none =>
    have := hn rfl
    subst this
    have : zs = [] := List.eq_nil_of_length_eq_zero (by omega)
    subst this
    exact .inl ⟨rfl, rfl⟩
  | some a => exact .inr ⟨a, c, rfl, hr, hc⟩
theorem open_option {W : World} {cs : List Value} (h : Opens W 46 cs) :
    ∃ (x : El) (zs : List Int), cs = tv x ∧ Slc W x.v zs ∧ Byt zs ∧ zs.length ≤ 140737488355328 ∧ 0 ≤ x.k ∧ x.k ≤ 255 := by
  obtain ⟨hl, hf⟩ := h.struct Tryd.underlying46
  rw [cells_opt] at hl
  match cs, hl with
  | [v0, v1], _ =>
    have h0 : Opens W 5 (List.take (Tryd.prog.cellsOf 5) (List.drop 0 [v0, v1])) := hf 0 _ rfl
    have h1 : Opens W 28 (List.take (Tryd.prog.cellsOf 28) (List.drop 1 [v0, v1])) := hf 1 _ rfl
    rw [cells_u8] at h0
    rw [cells_bytes] at h1
    simp only [List.drop_zero, List.take_succ_cons, List.take_zero, List.drop_succ_cons] at h0 h1
    obtain ⟨kd, e0, w0⟩ := h0.int Tryd.underlying5
    obtain ⟨A, c, zs, e1, k1, _, k2, k6, k3, k4⟩ := h1.nums Tryd.underlying28 Tryd.underlying5 cells_u8
    rw [show Tryd.prog.bytesOf 5 = 1 by kernel_rfl] at k2
    have k5 : zs.length ≤ 140737488355328 := by unfold reachBytes at k2; omega
    injection e0 with e0
    injection e1 with e1
    subst e0 e1
    have b0 := u8_of w0
    exact ⟨⟨kd, A, zs.length, c⟩, zs, rfl, slc_of_rd k3 k1 k6, fun z hz => u8_of (k4 z hz), k5, b0.1, b0.2⟩
theorem open_options {W : World} {cs : List Value} (h : Opens W 31 cs) : ∃ A n c os, cs = [.slice A n c] ∧ n ≤ c ∧ n ≤ 140737488355328 ∧ os.length = n ∧ Reads W A os ∧ Fine os := by
  obtain ⟨A, n, c, rfl, h1, _, h3, _, hx⟩ := h.slice Tryd.underlying31
  rw [cells_opt] at hx
  rw [show Tryd.prog.bytesOf 46 = 32 by kernel_rfl] at h3
  have h2 : n ≤ 140737488355328 := by unfold reachBytes at h3; omega
  obtain ⟨f, hf⟩ := Go.Deep.choose_lt (α := Int × List Int) (p := fun i o => ∃ a x, A = some a ∧ ElAt W (a.add (i * 2)) x ∧ x.k = o.1 ∧ Slc W x.v o.2 ∧ Byt o.2 ∧ o.2.length ≤ 140737488355328 ∧ 0 ≤ o.1 ∧ o.1 ≤ 255) (fun i hi => by
    obtain ⟨a, cs', rfl, hlen, hc, ho⟩ := hx i hi
    obtain ⟨x, zs, rfl, k1, k2, k3, k4, k5⟩ := open_option ho
    exact ⟨(x.k, zs), a, x, rfl, ⟨by simpa using hc 0 (by omega), by have := hc 1 (by omega); rw [add_field _ _ 1 (by omega)] at this; simpa using this⟩, rfl, k1, k2, k3, k4, k5⟩)
  have hat : ∀ (i : Nat) (o : Int × List Int), ((List.range n).map f)[i]? = some o → i < n ∧ o = f i := fun i o ho => by
    have hi : i < n := by have := (List.getElem?_eq_some_iff.1 ho).1; simpa using this
    simp [hi] at ho
    exact ⟨hi, ho.symm⟩
  have hmem : ∀ o ∈ (List.range n).map f, ∃ i, i < n ∧ o = f i := fun o ho => by
    simp at ho
    obtain ⟨i, hi, e⟩ := ho
    exact ⟨i, hi, e.symm⟩
  refine ⟨A, n, c, (List.range n).map f, rfl, h1, h2, by simp, fun i o ho => ?_, ⟨fun o ho => ?_, fun o ho => ?_, fun o ho => ?_⟩⟩
  · obtain ⟨hi, rfl⟩ := hat i o ho
    obtain ⟨a, x, e1, e2, e3, e4, _⟩ := hf i hi
    exact ⟨a, x, e1, e2, e3, e4⟩
  · obtain ⟨i, hi, rfl⟩ := hmem o ho
    obtain ⟨a, x, _, _, _, _, _, _, e7, e8⟩ := hf i hi
    exact ⟨e7, e8⟩
  · obtain ⟨i, hi, rfl⟩ := hmem o ho
    obtain ⟨a, x, _, _, _, _, e5, _⟩ := hf i hi
    exact e5
  · obtain ⟨i, hi, rfl⟩ := hmem o ho
    obtain ⟨a, x, _, _, _, _, _, e6, _⟩ := hf i hi
    exact e6

/-- how many there are, and their bytes -/
def sumL (os : List (Int × List Int)) : Nat := (os.map fun o => o.2.length).sum
theorem sumL_next {os : List (Int × List Int)} {i : Nat} {o : Int × List Int} (h : os[i]? = some o) : sumL (os.take (i + 1)) = sumL (os.take i) + o.2.length := by
  have : os.take (i + 1) = os.take i ++ [o] := by
    rw [List.take_add_one, h]
    rfl
  unfold sumL
  rw [this]
  simp
theorem sumL_take (os : List (Int × List Int)) (i : Nat) : sumL (os.take i) ≤ sumL os := by
  have : sumL os = sumL (os.take i) + sumL (os.drop i) := by
    unfold sumL
    rw [← List.sum_append, ← List.map_append, List.take_append_drop]
  omega
theorem sumL_mem : ∀ {os : List (Int × List Int)} {o : Int × List Int}, o ∈ os → o.2.length ≤ sumL os
  | a :: os, o, h => by
    have e : sumL (a :: os) = a.2.length + sumL os := by simp [sumL]
    rcases List.mem_cons.1 h with rfl | h
    · omega
    · have := sumL_mem h
      omega
theorem sizeO_sum : ∀ (os : List (Int × List Int)), sizeO os ≤ sumL os + 9 * os.length
  | [] => by simp [sizeO, putO]
  | o :: os => by
    have h1 := sizeO_sum os
    have h2 : sizeO (o :: os) = (ob o).length + sizeO os := by unfold sizeO; rw [putO_cons, List.length_append]
    have h3 : sumL (o :: os) = o.2.length + sumL os := by simp [sumL]
    rw [ob_len] at h2
    have h4 : 8 * e8 o.2.length ≤ o.2.length + 9 := by unfold e8; omega
    simp only [List.length_cons]
    omega

set_option linter.unusedSimpArgs false in
set_option maxHeartbeats 4000000 in
theorem great_any (A : Option Addr) (n c : Nat) (os : List (Int × List Int)) (w : World) (hl : os.length = n) (hn : n ≤ 140737488355328) (ha : Reads w A os) (hf : Fine os) :
    Calls Tryd.prog 20 #[.slice A n c] w fun e w' => e = .returned (.bool (decide (5000 < n + sumL os))) ∧ w = w' := by
  have HA := veil ha
  have HL := veil hl
  have HF := veil hf
  have in1 : (n : Int) ≤ 140737488355328 := by omega
  clear ha hl hf
  go_enter Tryd.func20, Tryd.ntmps20
  go_wp2_with fail
  go_loopw [3, 4] (fun s3 s4 wr => ∃ i : Nat, i ≤ n ∧ s4 = .int .i64 i ∧ s3 = .int .i64 ((n + sumL (os.take i) : Nat) : Int) ∧ Hid (w = wr) ∧ (n + sumL (os.take i) : Nat) ≤ 300000000000000) (fun _ s4 _ => n - (intOf s4).toNat)
  case atStart => exact ⟨0, Nat.zero_le _, rfl, by simp [sumL], veil rfl, by simp [sumL]; omega⟩
  case round =>
    rename World => wr
    obtain ⟨i, hi, rfl, rfl, hw, hb⟩ := hrel
    obtain rfl : w = wr := hw.out
    clear hw
    obtain ⟨m, hm⟩ : ∃ m, n + sumL (os.take i) = m := ⟨_, rfl⟩
    rw [hm] at hb ⊢
    have HMM := veil hm
    by_cases hlt : i < n ∧ m < 9000
    · obtain ⟨hlt, h9⟩ := hlt
      have ij : (i : Int) < (n : Int) := by omega
      have i9 : (m : Int) < 9000 := by omega
      obtain ⟨o, ho⟩ : ∃ o, os[i]? = some o := ⟨_, List.getElem?_eq_getElem (by rw [HL.out]; exact hlt)⟩
      obtain ⟨a, x, rfl, X, k1, s1⟩ := HA.out i o ho
      have c2 := X.data
      have hxn : x.n = o.2.length := ((slc_of s1).1).symm
      have hxb : (x.n : Int) ≤ 140737488355328 := by have := HF.out.n o (List.mem_of_getElem? ho); omega
      have hs := sumL_next ho
      have HS := veil (show n + sumL (os.take (i + 1)) = m + x.n by omega)
      obtain ⟨xk, xA, xn, xc⟩ := x
      simp only at HS hxb
      clear X s1 k1 ho hxn hs hm
      go_wp2_with fail
      go_roundw
      case rel => exact ⟨i + 1, by omega, by go_num, by rw [HS.out]; go_num, veil (by first | trivial | rfl), by rw [HS.out]; omega⟩
      case measure => simp [intOf]; omega
    · have hres : Hid (decide (5000 < n + sumL os) = decide ((5000 : Int) < (m : Int))) := veil (by
        have h1 := sumL_take os i
        rw [decide_eq_decide]
        by_cases h : i < n
        · have h9 : 9000 ≤ m := by omega
          constructor <;> intro _ <;> omega
        · have : os.take i = os := List.take_of_length_le (by rw [HL.out]; omega)
          rw [this] at hm
          omega)
      clear hm
      by_cases hin : i < n
      · have ij : (i : Int) < (n : Int) := by omega
        have i9 : ¬ (m : Int) < 9000 := by omega
        clear hlt hin
        go_wp2_with fail
        go_ret
        rw [hres.out]
        exact ⟨rfl, rfl⟩
      · have ij : ¬ (i : Int) < (n : Int) := by omega
        clear hlt hin
        go_wp2_with fail
        go_ret
        rw [hres.out]
        exact ⟨rfl, rfl⟩

end Go.Proofs.YthkiamkhignchaaDoor.Oz
