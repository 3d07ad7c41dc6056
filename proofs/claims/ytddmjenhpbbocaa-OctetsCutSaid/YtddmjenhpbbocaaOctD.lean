/-
  The contract of package octets' Of: a cutter of a copy of these bytes, in two blocks of its own.
  Conditions: the bytes are at most 16777216.
-/
import Derived.Test.YtddmjenhpbbocaaOctC
import Derived.Deep.WholeRow
namespace Go.Proofs.Ytddmjenhpbbocaa
open Go.RowKit

theorem info_u8 : (Try.prog.info? 5).map (fun i => (i.zero, i.size, i.bytes)) = some (some (.int .u8 0), 1, 1) := by kernel_rfl

/-- bytes, as cells -/
def bv (zs : List Int) : List Value := zs.map (Value.int .u8)
theorem bv_length (zs : List Int) : (bv zs).length = zs.length := by simp [bv]
theorem bv_get (zs : List Int) (j : Nat) (h : j < zs.length) : (bv zs)[j]? = some (.int .u8 (zs.getD j 0)) := by simp [bv, List.getD, h]
/-- new bytes, all of them noughts -/
def zeros (n : Nat) : Array Value := madeCells #[.int .u8 0] n
theorem zeros_size (n : Nat) : (zeros n).size = n := size_madeCells _ _
theorem zeros_list (n : Nat) : (zeros n).toList = List.replicate n (.int .u8 0) := toList_madeCells_one _ _

theorem run_make_u8 (n : Nat) (hn : n ≤ 16777216) (u : World) : (Instr.makeSlice 22 (.int .i64 n) (.int .i64 n)).run Try.prog u = .ok (.slice (some ⟨u.heap.size, 0, none⟩) n n) (u.alloc (.cells (zeros n) 5)) := by
  obtain ⟨i, hi, hz0, hz1, hz2⟩ := info_parts info_u8
  have h := run_make (P := Try.prog) u 22 5 i (.int .u8 0) Try.underlying22 hi hz0 .i64 .i64 n n (by omega) (by omega) (by rw [hz2]; omega) (by omega)
  simpa [zeros, hz1, Value.cells] using h

theorem rd_list {w : World} {a : Addr} {zs : List Int} (h : Rd w (some a) zs) : ∀ j v, (bv zs)[j]? = some v → w.cell? (a.add j) = some v := by
  intro j v hv
  have hj : j < zs.length := by rw [← bv_length]; exact (List.getElem?_eq_some_iff.1 hv).1
  obtain ⟨a', e, hc⟩ := h j hj
  injection e with e
  subst e
  rw [bv_get zs j hj] at hv
  rw [hc, hv]
theorem bv_one (zs : List Int) : ∀ v ∈ bv zs, v.oneCell' = true := ints_oneCell .u8 zs

theorem Rd.alloc {w : World} {A : Option Addr} {zs : List Int} (h : Rd w A zs) (o : Obj) : Rd (w.alloc o) A zs := by
  intro j hj
  obtain ⟨a, e, hc⟩ := h j hj
  refine ⟨a, e, ?_⟩
  rw [World.cell?_alloc_lt w o _ (block_lt_of_cell hc), hc]

/-- copy of a slice into a block that was made just now -/
theorem run_copy_new (n N c : Nat) (A : Option Addr) (zs : List Int) (cur : Array Value) (w : World) (ty : TypeId) (hl : zs.length = n) (hr : Rd w A zs) (hN : cur.size = N) (hn : n ≤ N) :
    (Builtin.copy_ #[22, 22] ty #[.slice (some ⟨w.heap.size, 0, none⟩) N N, .slice A n c]).run Try.prog (w.alloc (.cells cur 5)) = .ok (goInt n) (w.alloc (.cells (bv zs ++ cur.toList.drop n).toArray 5)) := by
  obtain ⟨i, hi, hz0, hz1, hz2⟩ := info_parts info_u8
  have hsz : (Try.prog.info? 5).map (·.size) = some 1 := by rw [hi]; simp [hz1]
  by_cases h0 : n = 0
  · subst h0
    have : zs = [] := List.eq_nil_of_length_eq_zero hl
    subst this
    have h := run_copy_none (P := Try.prog) (w.alloc (.cells cur 5)) 22 22 ty 5 (some ⟨w.heap.size, 0, none⟩) A N N 0 c Try.underlying22 hsz (by simp)
    simpa [bv] using h
  · obtain ⟨a, rfl, _⟩ := hr 0 (by omega)
    have h := run_copy_row (P := Try.prog) (w.alloc (.cells cur 5)) 22 22 ty 5 w.heap.size 0 N N a n c cur 5 (bv zs) Try.underlying22 hsz (heap_alloc_new w _) (by rw [bv_length, hl]; exact (Nat.min_eq_left hn).symm)
      (rd_list (hr.alloc _)) (by rw [bv_length]; omega) (bv_one zs)
    rw [World.setRow_alloc_new] at h
    simpa [bv_length, hl] using h

theorem of_any (A : Option Addr) (n c : Nat) (zs : List Int) (w : World) (hl : zs.length = n) (hn : n ≤ 16777216) (hr : Rd w A zs) :
    Calls Try.prog 11 #[.slice A n c] w fun e w' => e = .returned (.pointer (some ⟨w.heap.size + 1, 0, none⟩)) ∧
      (w.alloc (.cells (bv zs).toArray 5)).alloc (.cells #[.slice (some ⟨w.heap.size, 0, none⟩) n n, .bool true] 48) = w' := by
  have hmk := run_make_u8 n hn w
  have hcp := run_copy_new n n c A zs (zeros n) w 3 hl hr (zeros_size n) (Nat.le_refl _)
  rw [show (zeros n).toList.drop n = [] by rw [zeros_list]; simp, List.append_nil] at hcp
  clear hl hr
  go_enter Try.func11, Try.ntmps11
  go_wp2
  go_ret
  exact ⟨rfl, rfl⟩

end Go.Proofs.Ytddmjenhpbbocaa
