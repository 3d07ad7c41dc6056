/-
  A twin of bytes: in a block of its own, with four strange bytes in its room; and that a twin is as it was made is told so.
  Conditions: at most 16000000 bytes.
-/
import Derived.Test.YthkiamkhignchaaDoorSame
namespace Go.Proofs.YthkiamkhignchaaDoor
open Go.RowKit

/-- what twin has made behind i rounds -/
def tw (l : List Int) (i : Nat) : List Value := bv (l.take i ++ List.replicate (l.length - i) 0)
theorem tw_cell (l : List Int) (i : Nat) (h : i < l.length) : (tw l i)[i]? = some (.int .u8 0) := by
  simp only [tw, bv, List.map_append, List.map_replicate]
  rw [List.getElem?_append_right (by simp; omega), List.getElem?_replicate, if_pos (by simp; omega)]
theorem tw_set (l : List Int) (i : Nat) (h : i < l.length) : (tw l i).set i (.int .u8 (l.getD i 0)) = tw l (i + 1) := by
  obtain ⟨q, hq⟩ : ∃ q, l.length - i = q + 1 := ⟨l.length - i - 1, by omega⟩
  have e2 : l.length - (i + 1) = q := by omega
  simp only [tw, bv, List.map_append, List.map_replicate, hq, e2, take_next l i h, List.map_cons, List.map_nil]
  have e3 : (List.map (Value.int IntKind.u8) (l.take i)).length = i := by simp; omega
  rw [List.set_append_right _ _ (by rw [e3]; omega), e3, Nat.sub_self, List.replicate_succ]
  simp
theorem tw_set2 (l : List Int) (i : Nat) (s : Int) (h : i < l.length) : ((tw l i).set i (.int .u8 s))[i]? = some (.int .u8 s) := by
  rw [List.getElem?_set_self]
  simp [tw, bv]
  omega

set_option maxHeartbeats 1000000 in
theorem twin_any (A : Option Addr) (n c : Nat) (zs : List Int) (s : Int) (w : World) (hl : zs.length = n) (hn : n ≤ 16000000) (hr : Rd w A zs) :
    Calls Tryd.prog 36 #[.slice A n c, .int .u8 s] w fun e w' => e = .returned (.slice (some ⟨w.heap.size, 0, none⟩) n (n + 4)) ∧
      w.alloc (.cells (bv (zs ++ List.replicate 4 s)).toArray 5) = w' := by
  have hmk := run_make_u8 (n + 4) (by omega) w
  simp only [Int.natCast_add, Int.cast_ofNat_Int] at hmk
  have hL : (zs ++ List.replicate 4 s).length = n + 4 := by simp [hl]
  rw [show zeros (n + 4) = (tw (zs ++ List.replicate 4 s) 0).toArray by apply Array.toList_inj.1; rw [zeros_list]; simp [tw, bv, hl]] at hmk
  have HL := veil hl
  have HLL := veil hL
  have HR := veil hr
  have hz : Hid (∀ i, i < n → (zs ++ List.replicate 4 s).getD i 0 = zs.getD i 0) := fun i hi => by simp [List.getD, List.getElem?_append, hl, hi]
  have hs : Hid (∀ i, n ≤ i → i < n + 4 → (zs ++ List.replicate 4 s).getD i 0 = s) := fun i h1 h2 => by
    simp only [List.getD]
    rw [List.getElem?_append_right (by omega), List.getElem?_replicate, if_pos (by omega)]
    rfl
  generalize hLs : zs ++ List.replicate 4 s = l at hmk HLL hz hs
  clear hl hL hr hLs
  go_enter Tryd.func36, Tryd.ntmps36
  go_wp2_with fail
  clear hmk
  go_loopw [6] (fun i wr => ∃ j : Nat, j ≤ n + 4 ∧ i = .int .i64 j ∧ wr = w.alloc (.cells (tw l j).toArray 5)) (fun i _ => n + 4 - (intOf i).toNat)
  case atStart => exact ⟨0, Nat.zero_le _, rfl, rfl⟩
  case round =>
    obtain ⟨j, hj, rfl, rfl⟩ := hrel
    by_cases hlt : j < n + 4
    · have hjl : j < l.length := by rw [HLL.out]; exact hlt
      have c0 := tw_cell l j hjl
      have c1 := tw_set2 l j s hjl
      have E := veil (tw_set l j hjl)
      by_cases hjn : j < n
      · obtain ⟨a, rfl, hca⟩ := HR.out.alloc (.cells ((tw l j).set j (.int .u8 s)).toArray 5) j (by rw [HL.out]; exact hjn)
        have hz1 := hz.out j hjn
        rw [← hz1] at hca
        clear hz1
        go_wp2_with fail
        go_roundw
        case rel => exact ⟨j + 1, by omega, by go_num, by rw [← E.out]; simp [hjl]⟩
        case measure => simp [intOf]; omega
      · have e1 := hs.out j (by omega) hlt
        rw [e1] at E
        clear e1
        go_wp2_with fail
        go_roundw
        case rel => exact ⟨j + 1, by omega, by go_num, by rw [← E.out]⟩
        case measure => simp [intOf]; omega
    · have e : j = n + 4 := by omega
      subst e
      have e2 : tw l (n + 4) = bv l := by
        unfold tw
        rw [List.take_of_length_le (by rw [HLL.out]; omega), HLL.out]
        simp
      have E := veil e2
      clear e2
      go_wp2_with fail
      go_ret
      exact ⟨rfl, by rw [E.out]⟩

theorem twinBytes_any (A : Option Addr) (n c : Nat) (zs : List Int) (w : World) (hl : zs.length = n) (hn : n ≤ 16000000) (hr : Rd w A zs) :
    Calls Tryd.prog 21 #[.slice A n c] w fun e w' => e = .returned (.slice (some ⟨w.heap.size, 0, none⟩) n (n + 4)) ∧
      w.alloc (.cells (bv (zs ++ List.replicate 4 199)).toArray 5) = w' := by
  have H := veil (twin_any A n c zs 199 w hl hn hr)
  clear hl hn hr
  go_enter Tryd.func21, Tryd.ntmps21
  go_wp2_with fail
  refine (H.out).mono ?_
  rintro e w' ⟨rfl, hw⟩
  go_wp2_with fail
  go_ret
  exact ⟨rfl, hw⟩

/-- a twin at block g, as it was made -/
def TwinAt (w : World) (g : Nat) (zs : List Int) : Prop := Row w g 5 (bv (zs ++ List.replicate 4 199)).toArray
theorem TwinAt.rd {w : World} {g : Nat} {zs : List Int} (h : TwinAt w g zs) : Rd w (some ⟨g, 0, none⟩) zs :=
  rd_row h (fun j hj => by
    rw [Nat.zero_add, bv, List.map_append, List.getElem?_append_left (by simpa using hj)]
    exact bv_get zs j hj)
theorem TwinAt.room {w : World} {g : Nat} {zs : List Int} (h : TwinAt w g zs) (j : Nat) (hj : j < 4) : w.cell? ⟨g, zs.length + j, none⟩ = some (.int .u8 199) := by
  rw [h.cell]
  simp only [List.getElem?_toArray, bv, List.map_append, List.map_replicate]
  rw [List.getElem?_append_right (by simp), List.getElem?_replicate, if_pos (by simp; omega)]

set_option maxHeartbeats 1000000 in
theorem left_true (g : Nat) (B : Option Addr) (n c d : Nat) (zs : List Int) (w : World) (hl : zs.length = n) (hn : n ≤ 16000000) (ht : TwinAt w g zs) (hr : Rd w B zs) (hc : n + 4 ≤ c) :
    Calls Tryd.prog 50 #[.slice (some ⟨g, 0, none⟩) n c, .slice B n d, .int .u8 199] w fun e w' => e = .returned (.bool true) ∧ Still w w' := by
  have HS := veil (same_eq (some ⟨g, 0, none⟩) B n c d zs w hl (by unfold maxLen; omega) ht.rd hr)
  have HT := veil ht
  have HL := veil hl
  clear ht hr hl
  go_enter Tryd.func50, Tryd.ntmps50
  go_wp2_with fail
  refine (HS.out).mono ?_
  rintro e w1 ⟨rfl, hw1⟩
  obtain ⟨q, rfl⟩ := hw1
  clear HS
  go_wp2_with fail
  go_loopw [8] (fun i wr => ∃ j : Nat, j ≤ 4 ∧ i = .int .i64 j ∧ wr = w.drewN q) (fun i _ => 4 - (intOf i).toNat)
  case atStart => exact ⟨0, Nat.zero_le _, rfl, rfl⟩
  case round =>
    obtain ⟨j, hj, rfl, rfl⟩ := hrel
    by_cases hlt : j < 4
    · have c0 : w.cell? ⟨g, n + j, none⟩ = some (.int .u8 199) := by rw [← HL.out]; exact HT.out.room j hlt
      go_wp2_with fail
      go_roundw
      case rel => exact ⟨j + 1, by omega, by go_num, trivial⟩
      case measure => simp [intOf]; omega
    · go_wp2_with fail
      go_ret
      exact ⟨rfl, q, rfl⟩

theorem leftBytes_true (g : Nat) (B : Option Addr) (n c d : Nat) (zs : List Int) (w : World) (hl : zs.length = n) (hn : n ≤ 16000000) (ht : TwinAt w g zs) (hr : Rd w B zs) (hc : n + 4 ≤ c) :
    Calls Tryd.prog 31 #[.slice (some ⟨g, 0, none⟩) n c, .slice B n d] w fun e w' => e = .returned (.bool true) ∧ Still w w' := by
  have H := veil (left_true g B n c d zs w hl hn ht hr hc)
  clear hl hn hr ht hc
  go_enter Tryd.func31, Tryd.ntmps31
  go_wp2_with fail
  refine (H.out).mono ?_
  rintro e w' ⟨rfl, hw⟩
  go_wp2_with fail
  go_ret
  exact ⟨rfl, hw⟩

end Go.Proofs.YthkiamkhignchaaDoor
