/-
  Of, of whatever lists of bytes: the checksum of all of them, one behind the other; what was there stays.
  Conditions: each list has at most as many bytes as the model's greatest length.
-/
import Derived.RangeFuncNested
import Derived.RangeFuncBound
import Derived.RangeFuncCalls
import Derived.RangeFuncLeaves
import Derived.RangeFuncFrom
import Derived.Shelf.Abstract
import Derived.Shelf.RegionOpen
import Derived.OwnWalkIn
import Derived.TacticsInMore
import Derived.LoopNIn
import Derived.LoopIn
import Derived.Test.YtoadligcfecpfaaMem
import Derived.Test.YtoadligcfecpfaaSumNum
namespace Go.Proofs.Ytoadligcfecpfaa
open Go.RowKit Go.Shelf
attribute [local go_sem] Oper.semAt_some

/-- a byte -/
abbrev U8 := { x : Int // 0 ≤ x ∧ x ≤ 255 }
/-- bytes, as numbers -/
def raw (l : List U8) : List Int := l.map (·.1)

theorem raw_length (l : List U8) : (raw l).length = l.length := by simp [raw]
theorem raw_byt (l : List U8) : Byt (raw l) := by
  intro z hz
  simp [raw] at hz
  obtain ⟨h, -⟩ := hz
  exact h
theorem raw_append (a b : List U8) : raw (a ++ b) = raw a ++ raw b := by simp [raw]
theorem raw_of : ∀ (zs : List Int), Byt zs → ∃ us, raw us = zs
  | [], _ => ⟨[], rfl⟩
  | z :: zs, h => by
    obtain ⟨us, e⟩ := raw_of zs (fun y hy => h y (by simp [hy]))
    exact ⟨⟨z, h z (by simp)⟩ :: us, by simp [raw] at e ⊢; exact e⟩

/-- a list of slices that read as these lists of bytes -/
def Lst (w : World) (A : Option Addr) (zss : List (List U8)) : Prop :=
  ∀ j, j < zss.length → ∃ a B d, A = some a ∧ w.cell? (a.add j) = some (.slice B (zss.getD j []).length d) ∧ Rd w B (raw (zss.getD j [])) ∧ (zss.getD j []).length ≤ maxLen

/-- what has come: i lists, and k bytes of the next one -/
def seen (zss : List (List U8)) (i k : Nat) : List U8 := (zss.take i).flatten ++ (zss.getD i []).take k

theorem seen_byte (zss : List (List U8)) (i k : Nat) (h : k < (zss.getD i []).length) : ∃ x : U8, (raw (zss.getD i [])).getD k 0 = x.1 ∧ seen zss i (k + 1) = seen zss i k ++ [x] := by
  refine ⟨(zss.getD i [])[k], ?_, ?_⟩
  · simp only [raw, List.getD_eq_getElem?_getD, List.getElem?_map]
    rw [List.getElem?_eq_getElem (by simpa using h)]
    simp
  · unfold seen
    rw [List.take_add_one, List.getElem?_eq_getElem h]
    simp
theorem seen_list (zss : List (List U8)) (i : Nat) (h : i < zss.length) : seen zss i (zss.getD i []).length = seen zss (i + 1) 0 := by
  unfold seen
  rw [List.take_add_one, List.getElem?_eq_getElem h]
  simp only [List.flatten_append, Option.toList_some, List.flatten_cons, List.flatten_nil, List.append_nil, List.take_zero, List.take_length, List.getD_eq_getElem?_getD, List.getElem?_eq_getElem h, Option.getD_some]
theorem seen_all (zss : List (List U8)) : seen zss zss.length 0 = zss.flatten := by simp [seen]
theorem seen_none (zss : List (List U8)) : seen zss 0 0 = [] := by simp [seen]
theorem seen_pre (zss : List (List U8)) (i k : Nat) : seen zss i k <+: zss.flatten := by
  by_cases h : i < zss.length
  · have e : zss.flatten = (zss.take i).flatten ++ (zss.getD i [] ++ (zss.drop (i + 1)).flatten) := by
      conv => lhs; rw [← List.take_append_drop i zss, List.drop_eq_getElem_cons h]
      simp only [List.flatten_append, List.flatten_cons, List.getD_eq_getElem?_getD, List.getElem?_eq_getElem h, Option.getD_some]
    rw [e]
    unfold seen
    refine List.prefix_append_right_inj _ |>.2 ?_
    exact (List.take_prefix _ _).trans (List.prefix_append _ _)
  · unfold seen
    rw [List.take_of_length_le (by omega)]
    simp [List.getD, show zss.length ≤ i by omega]

theorem round_any (s : Int) (w : World) (h : 0 ≤ s) (h2 : s ≤ 131070) :
    Calls Try.prog 18 #[.int .u32 s] w fun e w' => e = .returned (.int .u32 (if 65535 < s then s - 65535 else s)) ∧ w = w' := by
  by_cases hs : 65535 < s
  · go_enter Try.func18, Try.ntmps18
    go_wp2
    go_ret
    exact ⟨rfl, rfl⟩
  · go_enter Try.func18, Try.ntmps18
    go_wp2
    go_ret
    exact ⟨rfl, rfl⟩

theorem each_in (n : Nat) (A : Option Addr) (k c : Nat) (w : World) :
    CallsIn Fence.wide n Try.prog 17 #[.slice A k c] w fun e w' => e = .returned (.func (.func 21) #[] #[.pointer (some ⟨w.heap.size, 0, none⟩)]) ∧ w.alloc (.cells #[.slice A k c] 44) = w' := by
  refine callsIn_of_wp Try.func17 rfl trivial ?_ rfl
  simp only [Try.ntmps17, List.size_toArray, List.length_cons, List.length_nil, Nat.reduceAdd, Nat.reduceSub, Array.replicate_succ, Array.replicate_zero, List.push_toArray, List.append_toArray, List.nil_append, List.cons_append]
  gi_wp2
  go_ret
  exact ⟨rfl, rfl⟩

set_option maxRecDepth 100000 in
set_option maxHeartbeats 4000000 in
theorem each1_in (n : Nat) (hn : 1 ≤ n) (l Bs : Nat) (A : Option Addr) (m c : Nat) (zss : List (List U8)) (w0 : World) (hm : zss.length = m) (hmm : m ≤ maxLen) (J Jx : List U8 → World → Prop)
    (hY : ∀ pre x W, J pre W → pre.length < zss.flatten.length → YieldAt Fence.wide (n - 1) Try.prog l #[.int .u8 x.1] W fun e W' =>
      (e = .returned (.bool true) ∧ J (pre ++ [x]) W' ∧ Below w0.heap.size W W') ∨ (e = .returned (.bool false) ∧ Jx (pre ++ [x]) W'))
    (W : World) (hBs : W.cell? ⟨Bs, 0, none⟩ = some (.slice A m c)) (hL : Lst w0 A zss) (hB : Below w0.heap.size w0 W) (h0 : J [] W) :
    CallsIn Fence.wide n Try.prog 21 #[.func (.yield l) #[] #[], .pointer (some ⟨Bs, 0, none⟩)] W fun e W' => (∃ v, e = .returned v) ∧
      ((∃ ys, ys = zss.flatten ∧ J ys W') ∨ (∃ pre, pre <+: zss.flatten ∧ Jx pre W')) := by
  unfold maxLen at hmm
  have HM := veil hm
  have HL := veil hL
  have HY := veil hY
  have HB := veil hB
  clear hm hL hY hB
  refine callsIn_of_wp Try.func21 rfl trivial ?_ rfl
  simp only [Try.ntmps21, List.size_toArray, List.length_cons, List.length_nil, Nat.reduceAdd, Nat.reduceSub, Array.replicate_succ, Array.replicate_zero, List.push_toArray, List.append_toArray, List.nil_append, List.cons_append]
  gi_wp2
  gi_loopw [9] (fun v wr => ∃ i : Nat, i ≤ m ∧ v = .int .i64 i ∧ J (seen zss i 0) wr ∧ Hid (Below w0.heap.size w0 wr)) (fun v _ => m - (intOf v).toNat)
  case atStart => exact ⟨0, Nat.zero_le _, rfl, by rw [seen_none]; exact h0, HB⟩
  case round =>
    obtain ⟨i, hi, rfl, hJ, hBr⟩ := hrel
    by_cases hlt : i < m
    · obtain ⟨a, B, d, rfl, hc, hrd, hlen⟩ := HL.out i (by rw [HM.out]; exact hlt)
      have hc2 := (hBr.out.cell (block_lt_of_cell hc)).trans hc
      have HR := veil hrd
      have HS := veil (seen_list zss i (by rw [HM.out]; exact hlt))
      have HX := veil (seen_byte zss i)
      obtain ⟨q, hq⟩ : ∃ q, (zss.getD i []).length = q := ⟨_, rfl⟩
      have HQ : Hid ((zss.getD i []).length = q) := hq
      rw [hq] at hc hc2 hlen
      unfold maxLen at hlen
      clear hrd hq hc
      gi_wp2
      gi_loopw [15] (fun v wr => ∃ k : Nat, k ≤ q ∧ v = .int .i64 k ∧ J (seen zss i k) wr ∧ Hid (Below w0.heap.size w0 wr)) (fun v _ => q - (intOf v).toNat)
      case atStart => exact ⟨0, Nat.zero_le _, rfl, hJ, hBr⟩
      case round =>
        clear hBr hJ
        obtain ⟨k, hk, rfl, hJ, hBr⟩ := hrel
        by_cases hkl : k < q
        · obtain ⟨b, rfl, hcb⟩ := HR.out k (by rw [raw_length, HQ.out]; exact hkl)
          have hcb2 := (hBr.out.cell (block_lt_of_cell hcb)).trans hcb
          obtain ⟨x, hx, hsx⟩ := HX.out k (by rw [HQ.out]; exact hkl)
          have hsl : (seen zss i k).length < zss.flatten.length := by
            have := (seen_pre zss i (k + 1)).length_le
            rw [hsx, List.length_append, List.length_singleton] at this
            omega
          obtain ⟨fn, tmps, assign, body, hy, hR⟩ := HY.out _ x _ hJ hsl
          rw [hx] at hcb2
          have HSX := veil hsx
          clear hcb hx hsl hsx
          gi_wp2
          refine hR.mono ?_
          rintro e W3 (⟨rfl, hJ3, hk3⟩ | ⟨rfl, hJx3⟩)
          · gi_wp2
            go_roundw
            case rel => exact ⟨k + 1, by omega, by go_num, by rw [HSX.out]; exact hJ3, hBr.out.trans hk3⟩
            case measure => simp [intOf]; omega
          · gi_wp2
            refine bodyPost_ret (results_none rfl _ _ _) rfl ?_
            exact ⟨⟨_, rfl⟩, .inr ⟨_, by rw [← HSX.out]; exact seen_pre _ _ _, hJx3⟩⟩
        · obtain rfl : k = q := by omega
          gi_wp2
          go_roundw
          case rel => exact ⟨i + 1, by omega, by go_num, by rw [← HS.out, HQ.out]; exact hJ, hBr⟩
          case measure => simp [intOf]; omega
    · obtain rfl : i = m := by omega
      gi_wp2
      go_end0
      exact ⟨⟨_, rfl⟩, .inl ⟨_, rfl, by rw [← seen_all, HM.out]; exact hJ⟩⟩

end Go.Proofs.Ytoadligcfecpfaa
