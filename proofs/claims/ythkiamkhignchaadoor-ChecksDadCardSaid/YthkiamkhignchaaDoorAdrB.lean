/-
  What IsMulticast, IsLinkLocal, Scope, Solicited answer, whatever address they are handed.
  Conditions: the known addresses lie in their table.
-/
import Derived.Test.YthkiamkhignchaaDoorAdrA
namespace Go.Proofs.YthkiamkhignchaaDoor.Ad
open Go.RowKit

def mult (xs : List Int) : Bool := decide (xs.getD 0 0 = 255)
def ll (xs : List Int) : Bool := decide (xs.getD 0 0 = 254 ∧ xs.getD 1 0 / 64 = 2)

theorem isMulticast_any (xs : List Int) (w : World) (h : Ok xs) : Calls Tryd.prog 17 #[av xs] w fun e w' => e = .returned (.bool (mult xs)) ∧ Below w.heap.size w w' := by
  have R := rng_row (row_new (w := w) (g := w.heap.size) (cs := (bv xs).toArray) (t := 23) rfl)
  have q := below_new w (.cells (bv xs).toArray 23)
  have c0 := rng_at R (j := 0) (by rw [h.len]; omega)
  have Q := veil q
  have M : Hid (mult xs = decide (xs.getD 0 0 = 255)) := rfl
  generalize xs.getD 0 0 = x0 at *
  generalize mult xs = z at *
  clear R q h
  by_cases hx : x0 = 255
  · have M' := M.out
    rw [decide_eq_true hx] at M'
    subst M' hx
    go_enter Tryd.func17, Tryd.ntmps17
    go_wp2_with fail
    go_ret
    exact ⟨rfl, Q.out⟩
  · have M' := M.out
    rw [decide_eq_false hx] at M'
    subst M'
    go_enter Tryd.func17, Tryd.ntmps17
    go_wp2_with fail
    go_ret
    exact ⟨by simp [hx], Q.out⟩

theorem isLinkLocal_any (xs : List Int) (w : World) (h : Ok xs) : Calls Tryd.prog 39 #[av xs] w fun e w' => e = .returned (.bool (ll xs)) ∧ Below w.heap.size w w' := by
  have R := rng_row (row_new (w := w) (g := w.heap.size) (cs := (bv xs).toArray) (t := 23) rfl)
  have q := below_new w (.cells (bv xs).toArray 23)
  have c0 := rng_at R (j := 0) (by rw [h.len]; omega)
  have c1 := rng_at R (j := 1) (by rw [h.len]; omega)
  have Q := veil q
  have M : Hid (ll xs = decide (xs.getD 0 0 = 254 ∧ xs.getD 1 0 / 64 = 2)) := rfl
  have hb := h.at 1
  have B := veil (and_high hb)
  generalize xs.getD 0 0 = x0 at *
  generalize xs.getD 1 0 = x1 at *
  generalize ll xs = z at *
  have e2 : bits .and .u8 x1 192 = 128 ↔ x1 / 64 = 2 := by rw [B.out]; omega
  clear R q h B
  by_cases hx : x0 = 254
  · subst hx
    by_cases hy : bits .and .u8 x1 192 = 128
    · have M' := M.out
      rw [decide_eq_true ⟨rfl, e2.1 hy⟩] at M'
      subst M'
      clear e2 M
      go_enter Tryd.func39, Tryd.ntmps39
      go_wp2_with fail
      go_ret
      exact ⟨by simp, Q.out⟩
    · have M' := M.out
      rw [decide_eq_false (fun k => hy (e2.2 k.2))] at M'
      subst M'
      clear e2 M
      go_enter Tryd.func39, Tryd.ntmps39
      go_wp2_with fail
      go_ret
      exact ⟨by simp [hy], Q.out⟩
  · have M' := M.out
    rw [decide_eq_false (fun k => hx k.1)] at M'
    subst M'
    clear e2 M
    go_enter Tryd.func39, Tryd.ntmps39
    go_wp2_with fail
    go_ret
    exact ⟨by simp, Q.out⟩

theorem kn1 : kn 1 = loop := rfl
theorem kn0 : kn 0 = nil := rfl
theorem scope_mult {xs : List Int} (h : xs.getD 0 0 = 255) : scope xs = xs.getD 1 0 % 16 := by unfold scope; rw [if_pos h]
theorem scope_link {xs : List Int} (h : xs.getD 0 0 ≠ 255) (k : xs = loop ∨ (xs.getD 0 0 = 254 ∧ xs.getD 1 0 / 64 = 2)) : scope xs = 2 := by unfold scope; rw [if_neg h, if_pos k]
theorem scope_none {xs : List Int} (h : xs = nil) : scope xs = 0 := by subst h; decide
theorem scope_else {xs : List Int} (h : xs.getD 0 0 ≠ 255) (k : ¬ (xs = loop ∨ (xs.getD 0 0 = 254 ∧ xs.getD 1 0 / 64 = 2))) (n : xs ≠ nil) : scope xs = 14 := by unfold scope; rw [if_neg h, if_neg k, if_neg n]

set_option maxHeartbeats 2000000 in
theorem solicited_any (xs : List Int) (w : World) (h : Ok xs) : Calls Tryd.prog 18 #[av xs] w fun e w' => e = .returned (av (sol xs)) ∧ Below w.heap.size w w' := by
  go_enter Tryd.func18, Tryd.ntmps18
  obtain ⟨Z, hZ⟩ : ∃ Z : Array Value, Z = #[.int .u8 0, .int .u8 0, .int .u8 0, .int .u8 0, .int .u8 0, .int .u8 0, .int .u8 0, .int .u8 0, .int .u8 0, .int .u8 0, .int .u8 0, .int .u8 0, .int .u8 0, .int .u8 0, .int .u8 0, .int .u8 0] := ⟨_, rfl⟩
  have hs : Z.size = 16 := by rw [hZ]; rfl
  have q0 := below_new w (.cells (bv xs).toArray 23)
  have r0 := rng_row (row_new (w := w) (g := w.heap.size) (cs := (bv xs).toArray) (t := 23) rfl)
  have z0 : (w.alloc (.cells (bv xs).toArray 23)).heap.size = w.heap.size + 1 := by simp
  obtain ⟨w0, hw0⟩ : ∃ w0, w.alloc (.cells (bv xs).toArray 23) = w0 := ⟨_, rfl⟩
  rw [hw0] at q0 r0 z0
  have q1 := below_new w0 (.cells Z 23)
  have R := row_new (w := w0) (g := w.heap.size + 1) (cs := Z) (t := 23) z0.symm
  have r1 := rng_keep r0 q1
  have Q := q0.trans (q1.mono q0.size)
  have c13 := rng_at r1 (j := 13) (by rw [h.len]; omega)
  have c14 := rng_at r1 (j := 14) (by rw [h.len]; omega)
  have c15 := rng_at r1 (j := 15) (by rw [h.len]; omega)
  have O := sol_ok h
  have T := veil (store_row R hs O.len)
  have R' := veil (R.setRow (bv (sol xs)).toArray)
  have q' := veil (below_setRow Q (w.heap.size + 1) (bv (sol xs)).toArray (by omega))
  have hl := sizeOk O.len
  have B : Hid ((Instr.build 23 #[(0, .int .u8 255), (1, .int .u8 2), (11, .int .u8 1), (12, .int .u8 255), (13, .int .u8 (xs.getD 13 0)), (14, .int .u8 (xs.getD 14 0)), (15, .int .u8 (xs.getD 15 0))]).run Tryd.prog (w0.alloc (.cells Z 23)) = .ok (av (sol xs)) (w0.alloc (.cells Z 23))) := by
    unfold Hid sol
    generalize xs.getD 13 0 = a
    generalize xs.getD 14 0 = b
    generalize xs.getD 15 0 = c
    kernel_rfl
  generalize xs.getD 13 0 = a at *
  generalize xs.getD 14 0 = b at *
  generalize xs.getD 15 0 = c at *
  generalize sol xs = ys at *
  clear R q0 r0 q1 Q hs h O r1
  subst hZ hw0
  go_wp2_with (first
    | (refine wpList_build_of rfl _ _ rfl _ (by simp [Act.eval]) B.out ?_)
    | (refine wpList_store_of rfl _ _ rfl rfl rfl T.out ?_))
  refine bodyPost_ret (results_cell_row rfl _ _ (w.heap.size + 1) _ _ (0, 0) _ rfl R'.out Tryd.underlying23 rfl (by simpa using hl)) rfl ?_
  exact ⟨rfl, q'.out⟩

end Go.Proofs.YthkiamkhignchaaDoor.Ad
