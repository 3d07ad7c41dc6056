/-
  Contracts of package octets' functions, for every cutter that is not there, that is spoilt, or that is sound.
  Conditions: a cutter lies in a block of its own; what is left lies in a slice of at most its capacity.
-/
import Derived.Test.YtdebifkefpclaaaDoorMem
namespace Go.Proofs.YtdebifkefpclaaaDoor
set_option maxRecDepth 100000
open Go.RowKit

theorem width_yes (n : Int) (w : World) (h1 : 1 ≤ n) (h2 : n ≤ 8) : Calls Tryd.prog 96 #[.int .i64 n] w fun e w' => e = .returned (.bool true) ∧ w = w' := by
  go_enter Tryd.func96, Tryd.ntmps96
  go_wp2
  all_goals go_ret
  all_goals (first | exact ⟨rfl, rfl⟩ | (exfalso; omega))

theorem width_no (n : Int) (w : World) (h : n < 1 ∨ 8 < n) : Calls Tryd.prog 96 #[.int .i64 n] w fun e w' => e = .returned (.bool false) ∧ w = w' := by
  rcases h with h | h
  · go_enter Tryd.func96, Tryd.ntmps96
    go_wp2
    all_goals go_ret
    all_goals (first | exact ⟨rfl, rfl⟩ | (exfalso; omega))
  · have h' : 1 ≤ n := by omega
    go_enter Tryd.func96, Tryd.ntmps96
    go_wp2
    all_goals go_ret
    all_goals (first | exact ⟨rfl, rfl⟩ | (refine ⟨?_, rfl⟩; simp; omega))

theorem bad_nil (w : World) : Calls Tryd.prog 67 #[.pointer none] w fun e w' => e = .returned (.bool true) ∧ w = w' := by
  go_enter Tryd.func67, Tryd.ntmps67
  go_wp2
  all_goals go_ret
  all_goals exact ⟨rfl, rfl⟩

theorem bad_at (g : Nat) (s : Bool) (x : Value) (w : World) (h : Row w g 130 #[x, .bool s]) : Calls Tryd.prog 67 #[.pointer (some ⟨g, 0, none⟩)] w fun e w' => e = .returned (.bool (!s)) ∧ w = w' := by
  have h1 : w.cell? ⟨g, 1, none⟩ = some (.bool s) := h.cell 1
  clear h
  go_enter Tryd.func67, Tryd.ntmps67
  go_wp2
  all_goals go_ret
  all_goals exact ⟨rfl, rfl⟩

theorem left_nil (w : World) : Calls Tryd.prog 64 #[.pointer none] w fun e w' => e = .returned (.int .i64 0) ∧ w = w' := by
  go_enter Tryd.func64, Tryd.ntmps64
  go_wp2
  all_goals go_ret
  all_goals exact ⟨rfl, rfl⟩

theorem left_at (g : Nat) (s : Bool) (A : Option Addr) (n c : Nat) (w : World) (h : Row w g 130 #[.slice A n c, .bool s]) : Calls Tryd.prog 64 #[.pointer (some ⟨g, 0, none⟩)] w fun e w' => e = .returned (.int .i64 n) ∧ w = w' := by
  have h0 : w.cell? ⟨g, 0, none⟩ = some (.slice A n c) := h.cell 0
  clear h
  go_enter Tryd.func64, Tryd.ntmps64
  go_wp2
  all_goals go_ret
  all_goals exact ⟨rfl, rfl⟩

theorem spoil_nil (w : World) : Calls Tryd.prog 97 #[.pointer none] w fun e w' => e = .returned (.tuple #[]) ∧ w = w' := by
  go_enter Tryd.func97, Tryd.ntmps97
  go_wp2
  all_goals go_end0
  all_goals exact ⟨rfl, rfl⟩

theorem spoil_at (g : Nat) (x y : Value) (w : World) (h : Row w g 130 #[x, y]) : Calls Tryd.prog 97 #[.pointer (some ⟨g, 0, none⟩)] w fun e w' => e = .returned (.tuple #[]) ∧ (w.setCell ⟨g, 0, none⟩ (.slice none 0 0)).setCell ⟨g, 1, none⟩ (.bool false) = w' := by
  have h0 : w.cell? ⟨g, 0, none⟩ = some x := h.cell 0
  have h1 : w.cell? ⟨g, 1, none⟩ = some y := h.cell 1
  have f0 := h.frozen 0
  have f1 := h.frozen 1
  clear h
  go_enter Tryd.func97, Tryd.ntmps97
  go_wp2
  all_goals go_end0
  all_goals exact ⟨rfl, rfl⟩

theorem bytes_nil (k : Int) (w : World) : Calls Tryd.prog 66 #[.pointer none, .int .i64 k] w fun e w' => e = .returned (.slice none 0 0) ∧ w = w' := by
  go_enter Tryd.func66, Tryd.ntmps66
  go_wp2_with fail
  refine (bad_nil _).mono ?_
  rintro e w' ⟨rfl, rfl⟩
  go_wp2_with fail
  go_ret
  exact ⟨rfl, rfl⟩

theorem bytes_bad (g : Nat) (x : Value) (k : Int) (w : World) (h : Row w g 130 #[x, .bool false]) : Calls Tryd.prog 66 #[.pointer (some ⟨g, 0, none⟩), .int .i64 k] w fun e w' => e = .returned (.slice none 0 0) ∧ w = w' := by
  go_enter Tryd.func66, Tryd.ntmps66
  go_wp2_with fail
  refine (bad_at g _ _ _ h).mono ?_
  rintro e w' ⟨rfl, rfl⟩
  go_wp2_with fail
  go_ret
  exact ⟨rfl, rfl⟩

theorem bytes_over (g n c : Nat) (A : Option Addr) (k : Int) (w : World) (h : Row w g 130 #[.slice A n c, .bool true]) (hk : k < 0 ∨ (n : Int) < k) :
    Calls Tryd.prog 66 #[.pointer (some ⟨g, 0, none⟩), .int .i64 k] w fun e w' => e = .returned (.slice none 0 0) ∧ (w.setCell ⟨g, 0, none⟩ (.slice none 0 0)).setCell ⟨g, 1, none⟩ (.bool false) = w' := by
  have h0 : w.cell? ⟨g, 0, none⟩ = some (.slice A n c) := h.cell 0
  rcases hk with hk | hk
  · go_enter Tryd.func66, Tryd.ntmps66
    go_wp2_with fail
    refine (bad_at g _ _ _ h).mono ?_
    rintro e w' ⟨rfl, rfl⟩
    go_wp2_with fail
    refine (spoil_at g _ _ _ h).mono ?_
    rintro e w' ⟨rfl, rfl⟩
    go_wp2_with fail
    go_ret
    exact ⟨rfl, rfl⟩
  · have hk0 : ¬ k < 0 := by omega
    go_enter Tryd.func66, Tryd.ntmps66
    go_wp2_with fail
    refine (bad_at g _ _ _ h).mono ?_
    rintro e w' ⟨rfl, rfl⟩
    go_wp2_with fail
    refine (spoil_at g _ _ _ h).mono ?_
    rintro e w' ⟨rfl, rfl⟩
    go_wp2_with fail
    go_ret
    exact ⟨rfl, rfl⟩

theorem bytes_in (g n c k : Nat) (A : Option Addr) (w : World) (h : Row w g 130 #[.slice A n c, .bool true]) (hk : k ≤ n) (hc : n ≤ c) :
    Calls Tryd.prog 66 #[.pointer (some ⟨g, 0, none⟩), .int .i64 k] w fun e w' => e = .returned (.slice A k k) ∧ w.setCell ⟨g, 0, none⟩ (.slice (cutA A c k) (n - k) (c - k)) = w' := by
  have h0 : w.cell? ⟨g, 0, none⟩ = some (.slice A n c) := h.cell 0
  have f0 := h.frozen 0
  go_enter Tryd.func66, Tryd.ntmps66
  go_wp2_with fail
  refine (bad_at g _ _ _ h).mono ?_
  rintro e w' ⟨rfl, rfl⟩
  go_wp2_with fail
  all_goals go_ret
  all_goals (refine ⟨rfl, ?_⟩; simp [cutA, *])

theorem rest_nil (w : World) : Calls Tryd.prog 103 #[.pointer none] w fun e w' => e = .returned (.slice none 0 0) ∧ w = w' := by
  go_enter Tryd.func103, Tryd.ntmps103
  go_wp2_with fail
  refine (left_nil _).mono ?_
  rintro e w' ⟨rfl, rfl⟩
  go_wp2_with fail
  refine (bytes_nil _ _).mono ?_
  rintro e w' ⟨rfl, rfl⟩
  go_wp2_with fail
  go_ret
  exact ⟨rfl, rfl⟩

theorem rest_bad (g n c : Nat) (A : Option Addr) (w : World) (h : Row w g 130 #[.slice A n c, .bool false]) :
    Calls Tryd.prog 103 #[.pointer (some ⟨g, 0, none⟩)] w fun e w' => e = .returned (.slice none 0 0) ∧ w = w' := by
  go_enter Tryd.func103, Tryd.ntmps103
  go_wp2_with fail
  refine (left_at g _ _ _ _ _ h).mono ?_
  rintro e w' ⟨rfl, rfl⟩
  go_wp2_with fail
  refine (bytes_bad g _ _ _ h).mono ?_
  rintro e w' ⟨rfl, rfl⟩
  go_wp2_with fail
  go_ret
  exact ⟨rfl, rfl⟩

theorem rest_at (g n c : Nat) (A : Option Addr) (w : World) (h : Row w g 130 #[.slice A n c, .bool true]) (hc : n ≤ c) :
    Calls Tryd.prog 103 #[.pointer (some ⟨g, 0, none⟩)] w fun e w' => e = .returned (.slice A n n) ∧ w.setCell ⟨g, 0, none⟩ (.slice (cutA A c n) (n - n) (c - n)) = w' := by
  go_enter Tryd.func103, Tryd.ntmps103
  go_wp2_with fail
  refine (left_at g _ _ _ _ _ h).mono ?_
  rintro e w' ⟨rfl, rfl⟩
  go_wp2_with fail
  refine (bytes_in g n c n A _ h (Nat.le_refl _) hc).mono ?_
  rintro e w' ⟨rfl, rfl⟩
  go_wp2_with fail
  go_ret
  simp

theorem num_of (p : Value) (k : Int) (A : Option Addr) (m : Nat) (zs : List Int) (w w1 : World) (h1 : 1 ≤ k) (h2 : k ≤ 8) (hm : zs.length = m) (hm8 : m ≤ 8) (hz : Byt zs) (hr : Rd w1 A zs)
    (hb : Calls Tryd.prog 66 #[p, .int .i64 k] w fun e w' => e = .returned (.slice A m m) ∧ w1 = w') :
    Calls Tryd.prog 65 #[p, .int .i64 k] w fun e w' => e = .returned (.int .u64 (num zs)) ∧ w1 = w' := by
  have HB := veil hb
  have HM := veil hm
  have HR := veil hr
  have HZ := veil hz
  clear hb hm hr hz
  go_enter Tryd.func65, Tryd.ntmps65
  go_wp2_with fail
  refine (width_yes k _ h1 h2).mono ?_
  rintro e w' ⟨rfl, rfl⟩
  go_wp2_with fail
  refine (HB.out).mono ?_
  rintro e w' ⟨rfl, rfl⟩
  go_wp2_with fail
  go_loop [5, 17] (fun n i => ∃ j : Nat, j ≤ m ∧ i = .int .i64 j ∧ n = .int .u64 (num (zs.take j))) (fun _ i => m - (intOf i).toNat)
  case atStart => exact ⟨0, Nat.zero_le _, rfl, rfl⟩
  case round =>
    obtain ⟨j, hj, rfl, rfl⟩ := hrel
    by_cases hlt : j < m
    · obtain ⟨a, rfl, hc⟩ := HR.out j (by rw [HM.out]; exact hlt)
      have hx := HZ.out.at_ j
      have hn := num_bound8 zs HZ.out j (by rw [HM.out]; omega) (by omega)
      have E := veil (num_next zs j (by rw [HM.out]; exact hlt))
      have F := veil (or_step (num (zs.take j)) (zs.getD j 0) hn.1 hn.2 hx.1 hx.2)
      clear hx hn
      go_wp2
      go_round
      case rel => exact ⟨j + 1, by omega, by go_num, by rw [E.out, ← F.out]; simp⟩
      case measure => simp [intOf]; omega
    · go_wp2
      go_ret
      have e : j = m := by omega
      rw [show zs.take j = zs from List.take_of_length_le (by rw [HM.out]; omega)]
      simp

theorem num_nil (k : Int) (w : World) : Calls Tryd.prog 65 #[.pointer none, .int .i64 k] w fun e w' => e = .returned (.int .u64 0) ∧ w = w' := by
  by_cases hk : 1 ≤ k ∧ k ≤ 8
  · exact num_of _ k none 0 [] w w hk.1 hk.2 rfl (by omega) (by simp [Byt]) (by simp [Rd]) (bytes_nil k w)
  · have H := veil (show k < 1 ∨ 8 < k by omega)
    clear hk
    go_enter Tryd.func65, Tryd.ntmps65
    go_wp2_with fail
    refine (width_no k _ H.out).mono ?_
    rintro e w' ⟨rfl, rfl⟩
    go_wp2_with fail
    refine (spoil_nil _).mono ?_
    rintro e w' ⟨rfl, rfl⟩
    go_wp2_with fail
    go_ret
    exact ⟨rfl, rfl⟩

/-- a cutter that has nothing and is spoilt stays so -/
theorem num_bad (g : Nat) (k : Int) (w : World) (h : Row w g 130 #[.slice none 0 0, .bool false]) :
    Calls Tryd.prog 65 #[.pointer (some ⟨g, 0, none⟩), .int .i64 k] w fun e w' => e = .returned (.int .u64 0) ∧ w = w' := by
  by_cases hk : 1 ≤ k ∧ k ≤ 8
  · exact num_of _ k none 0 [] w w hk.1 hk.2 rfl (by omega) (by simp [Byt]) (by simp [Rd]) (bytes_bad g _ k w h)
  · have H := veil (show k < 1 ∨ 8 < k by omega)
    clear hk
    go_enter Tryd.func65, Tryd.ntmps65
    go_wp2_with fail
    refine (width_no k _ H.out).mono ?_
    rintro e w' ⟨rfl, rfl⟩
    go_wp2_with fail
    refine (spoil_at g _ _ _ h).mono ?_
    rintro e w' ⟨rfl, hw⟩
    have e0 : w.setCell ⟨g, 0, none⟩ (.slice none 0 0) = w := set_same h (by simp)
    have e1 : w.setCell ⟨g, 1, none⟩ (.bool false) = w := set_same h (by simp)
    rw [e0, e1] at hw
    subst hw
    clear e0 e1
    go_wp2_with fail
    go_ret
    exact ⟨rfl, rfl⟩

theorem num_over (g n c : Nat) (A : Option Addr) (k : Int) (w : World) (h : Row w g 130 #[.slice A n c, .bool true]) (hk : k < 1 ∨ 8 < k ∨ (n : Int) < k) :
    Calls Tryd.prog 65 #[.pointer (some ⟨g, 0, none⟩), .int .i64 k] w fun e w' => e = .returned (.int .u64 0) ∧ (w.setCell ⟨g, 0, none⟩ (.slice none 0 0)).setCell ⟨g, 1, none⟩ (.bool false) = w' := by
  by_cases hw : 1 ≤ k ∧ k ≤ 8
  · exact num_of _ k none 0 [] w _ hw.1 hw.2 rfl (by omega) (by simp [Byt]) (by simp [Rd]) (bytes_over g n c A k w h (by omega))
  · have H := veil (show k < 1 ∨ 8 < k by omega)
    clear hk hw
    go_enter Tryd.func65, Tryd.ntmps65
    go_wp2_with fail
    refine (width_no k _ H.out).mono ?_
    rintro e w' ⟨rfl, rfl⟩
    go_wp2_with fail
    refine (spoil_at g _ _ _ h).mono ?_
    rintro e w' ⟨rfl, rfl⟩
    go_wp2_with fail
    go_ret
    exact ⟨rfl, rfl⟩

theorem num_in (g n c k : Nat) (A : Option Addr) (zs : List Int) (w : World) (h : Row w g 130 #[.slice A n c, .bool true]) (hk : k ≤ n) (hc : n ≤ c) (h1 : 1 ≤ k) (h8 : k ≤ 8)
    (hl : zs.length = n) (hz : Byt zs) (hr : Rd w A zs) (ho : Off A g) :
    Calls Tryd.prog 65 #[.pointer (some ⟨g, 0, none⟩), .int .i64 k] w fun e w' => e = .returned (.int .u64 (num (zs.take k))) ∧ w.setCell ⟨g, 0, none⟩ (.slice (cutA A c k) (n - k) (c - k)) = w' :=
  num_of _ (k : Int) A k (zs.take k) w _ (by omega) (by omega) (by simp; omega) h8 (hz.take k) ((hr.far ho 0 _).take k) (bytes_in g n c k A w h hk hc)

theorem of_any (A : Option Addr) (n c : Nat) (zs : List Int) (w : World) (hl : zs.length = n) (hn : n ≤ 16777216) (hr : Rd w A zs) :
    Calls Tryd.prog 63 #[.slice A n c] w fun e w' => e = .returned (.pointer (some ⟨w.heap.size + 1, 0, none⟩)) ∧
      (w.alloc (.cells (bv zs).toArray 5)).alloc (.cells #[.slice (some ⟨w.heap.size, 0, none⟩) n n, .bool true] 130) = w' := by
  have hmk := run_make_u8 n hn w
  have hcp := run_copy_new n n c A zs (zeros n) w 3 hl hr (zeros_size n) (Nat.le_refl _)
  rw [show (zeros n).toList.drop n = [] by rw [zeros_list]; simp, List.append_nil] at hcp
  clear hl hr
  go_enter Tryd.func63, Tryd.ntmps63
  go_wp2
  go_ret
  exact ⟨rfl, rfl⟩

/-- what Put has made behind i rounds -/
def half (zs : List Int) (n : Int) (k i : Nat) : List Value := bv (zs ++ (List.replicate (k - i) 0 ++ be n i))

theorem half_cell (zs : List Int) (n : Int) (k j m : Nat) (hl : zs.length = m) (h : j < k) : (half zs n k j)[m + k - 1 - j]? = some (.int .u8 0) := by
  have e : k - j = (k - 1 - j) + 1 := by omega
  simp only [half, bv, List.map_append, List.map_replicate]
  rw [List.getElem?_append_right (by simp; omega), List.getElem?_append_left (by simp; omega)]
  rw [List.getElem?_replicate, if_pos (by simp; omega)]

theorem half_step (zs : List Int) (n : Int) (k j m : Nat) (hl : zs.length = m) (h : j < k) : (half zs n k j).set (m + k - 1 - j) (.int .u8 (n / 256 ^ j % 256)) = half zs n k (j + 1) := by
  obtain ⟨q, rfl⟩ : ∃ q, k = j + 1 + q := ⟨k - (j + 1), by omega⟩
  have e1 : j + 1 + q - j = q + 1 := by omega
  have e2 : j + 1 + q - (j + 1) = q := by omega
  have e3 : m + (j + 1 + q) - 1 - j = (bv zs).length + q := by rw [bv_length]; omega
  simp only [half, bv, List.map_append, List.map_replicate, e1, e2, e3, be, List.map_cons]
  rw [List.set_append_right _ _ (by simp), List.set_append_left _ _ (by simp), List.replicate_succ']
  congr 1
  rw [show (List.map (Value.int IntKind.u8) zs).length = (bv zs).length from rfl, Nat.add_sub_cancel_left]
  rw [List.set_append_right _ _ (by simp)]
  simp

set_option maxHeartbeats 1000000 in
theorem put_yes (A : Option Addr) (m c : Nat) (zs : List Int) (n : Int) (k : Nat) (w : World) (hl : zs.length = m) (hm : m ≤ 16000000) (hr : Rd w A zs) (h1 : 1 ≤ k) (h8 : k ≤ 8) :
    Calls Tryd.prog 74 #[.slice A m c, .int .u64 n, .int .i64 k] w fun e w' => e = .returned (.slice (some ⟨w.heap.size, 0, none⟩) (m + k) (m + k)) ∧
      w.alloc (.cells (bv (zs ++ be n k)).toArray 5) = w' := by
  have hmk := run_make_u8 (m + k) (by omega) w
  simp only [Int.natCast_add] at hmk
  have hcp := run_copy_new m (m + k) c A zs (zeros (m + k)) w 3 hl hr (zeros_size _) (by omega)
  rw [show (bv zs ++ (zeros (m + k)).toList.drop m) = half zs n k 0 by rw [zeros_list]; simp [half, bv, be]] at hcp
  have HL := veil hl
  clear hl hr
  go_enter Tryd.func74, Tryd.ntmps74
  go_wp2_with fail
  refine (width_yes k _ (by omega) (by omega)).mono ?_
  rintro e w' ⟨rfl, rfl⟩
  go_wp2_with fail
  go_loopw [1, 21] (fun x i wr => ∃ j : Nat, j ≤ k ∧ i = .int .i64 j ∧ x = .int .u64 (n / 256 ^ j) ∧ wr = w.alloc (.cells (half zs n k j).toArray 5)) (fun _ i _ => k - (intOf i).toNat)
  case atStart => exact ⟨0, Nat.zero_le _, rfl, by simp, rfl⟩
  case round =>
    obtain ⟨j, hj, rfl, rfl, rfl⟩ := hrel
    by_cases hlt : j < k
    · have hc := half_cell zs n k j m HL.out hlt
      have E := veil (half_step zs n k j m HL.out hlt)
      go_wp2
      go_roundw
      case rel => exact ⟨j + 1, by omega, by go_num, by rw [Int.pow_succ, ← Int.ediv_ediv_of_nonneg (by exact Int.le_of_lt (Int.pow_pos (by omega)))], by rw [E.out]⟩
      case measure => simp [intOf]; omega
    · go_wp2
      go_ret
      have e : j = k := by omega
      subst e
      simp [half]

set_option maxHeartbeats 1000000 in
theorem put_no (A : Option Addr) (m c : Nat) (zs : List Int) (n many : Int) (w : World) (hl : zs.length = m) (hm : m ≤ 16000000) (hr : Rd w A zs) (hw : many < 1 ∨ 8 < many) :
    Calls Tryd.prog 74 #[.slice A m c, .int .u64 n, .int .i64 many] w fun e w' => e = .returned (.slice (some ⟨w.heap.size, 0, none⟩) (m + 8) (m + 8)) ∧
      w.alloc (.cells (bv (zs ++ be n 8)).toArray 5) = w' := by
  have hmk := run_make_u8 (m + 8) (by omega) w
  simp only [Int.natCast_add, Int.cast_ofNat_Int] at hmk
  have hcp := run_copy_new m (m + 8) c A zs (zeros (m + 8)) w 3 hl hr (zeros_size _) (by omega)
  rw [show (bv zs ++ (zeros (m + 8)).toList.drop m) = half zs n 8 0 by rw [zeros_list]; simp [half, bv, be]] at hcp
  have HL := veil hl
  have HW := veil hw
  clear hl hr hw
  go_enter Tryd.func74, Tryd.ntmps74
  go_wp2_with fail
  refine (width_no many _ HW.out).mono ?_
  rintro e w' ⟨rfl, rfl⟩
  go_wp2_with fail
  go_loopw [1, 21] (fun x i wr => ∃ j : Nat, j ≤ 8 ∧ i = .int .i64 j ∧ x = .int .u64 (n / 256 ^ j) ∧ wr = w.alloc (.cells (half zs n 8 j).toArray 5)) (fun _ i _ => 8 - (intOf i).toNat)
  case atStart => exact ⟨0, Nat.zero_le _, rfl, by simp, rfl⟩
  case round =>
    obtain ⟨j, hj, rfl, rfl, rfl⟩ := hrel
    by_cases hlt : j < 8
    · have hc := half_cell zs n 8 j m HL.out hlt
      have hs := half_step zs n 8 j m HL.out hlt
      rw [show m + 8 - 1 - j = m + 7 - j by omega] at hc hs
      have E := veil hs
      clear hs
      go_wp2
      go_roundw
      case rel => exact ⟨j + 1, by omega, by go_num, by rw [Int.pow_succ, ← Int.ediv_ediv_of_nonneg (by exact Int.le_of_lt (Int.pow_pos (by omega)))], by rw [E.out]⟩
      case measure => simp [intOf]; omega
    · go_wp2
      go_ret
      have e : j = 8 := by omega
      subst e
      simp [half]

end Go.Proofs.YtdebifkefpclaaaDoor
