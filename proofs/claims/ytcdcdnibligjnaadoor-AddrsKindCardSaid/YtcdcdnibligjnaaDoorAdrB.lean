/-
  What IsMulticast, IsLinkLocal, Scope, Solicited answer, whatever address they are handed.
  Conditions: the known addresses lie in their table.
-/
import Derived.Test.YtcdcdnibligjnaaDoorAdrA
namespace Go.Proofs.YtcdcdnibligjnaaDoor.Ad
open Go.RowKit

def mult (xs : List Int) : Bool := decide (xs.getD 0 0 = 255)
def ll (xs : List Int) : Bool := decide (xs.getD 0 0 = 254 ∧ xs.getD 1 0 / 64 = 2)

theorem isMulticast_any (xs : List Int) (w : World) (h : Ok xs) : Calls Tryd.prog 17 #[av xs] w fun e w' => e = .returned (.bool (mult xs)) ∧ Below w.heap.size w w' := by
  have R := rng_row (row_new (w := w) (g := w.heap.size) (cs := (bv xs).toArray) (t := 23) rfl)
  have q := below_new w (.cells (bv xs).toArray 23)
  have c0 := rng_at R (j := 0) (by rw [h.len]; omega)
  have Q := veil q
  have M : Hid (mult xs = decide (xs.getD 0 0 = 255)) := rfl
  generalize xs.getD 0 0 = x0 at *
  generalize mult xs = z at *
  clear R q h
  by_cases hx : x0 = 255
  · have M' := M.out
    rw [decide_eq_true hx] at M'
    subst M' hx
    go_enter Tryd.func17, Tryd.ntmps17
    go_wp2_with fail
    go_ret
    exact ⟨rfl, Q.out⟩
  · have M' := M.out
    rw [decide_eq_false hx] at M'
    subst M'
    go_enter Tryd.func17, Tryd.ntmps17
    go_wp2_with fail
    go_ret
    exact ⟨by simp [hx], Q.out⟩

theorem isLinkLocal_any (xs : List Int) (w : World) (h : Ok xs) : Calls Tryd.prog 19 #[av xs] w fun e w' => e = .returned (.bool (ll xs)) ∧ Below w.heap.size w w' := by
  have R := rng_row (row_new (w := w) (g := w.heap.size) (cs := (bv xs).toArray) (t := 23) rfl)
  have q := below_new w (.cells (bv xs).toArray 23)
  have c0 := rng_at R (j := 0) (by rw [h.len]; omega)
  have c1 := rng_at R (j := 1) (by rw [h.len]; omega)
  have Q := veil q
  have M : Hid (ll xs = decide (xs.getD 0 0 = 254 ∧ xs.getD 1 0 / 64 = 2)) := rfl
  have hb := h.at 1
  have B := veil (and_high hb)
  generalize xs.getD 0 0 = x0 at *
  generalize xs.getD 1 0 = x1 at *
  generalize ll xs = z at *
  have e2 : bits .and .u8 x1 192 = 128 ↔ x1 / 64 = 2 := by rw [B.out]; omega
  clear R q h B
  by_cases hx : x0 = 254
  · subst hx
    by_cases hy : bits .and .u8 x1 192 = 128
    · have M' := M.out
      rw [decide_eq_true ⟨rfl, e2.1 hy⟩] at M'
      subst M'
      clear e2 M
      go_enter Tryd.func19, Tryd.ntmps19
      go_wp2_with fail
      go_ret
      exact ⟨by simp, Q.out⟩
    · have M' := M.out
      rw [decide_eq_false (fun k => hy (e2.2 k.2))] at M'
      subst M'
      clear e2 M
      go_enter Tryd.func19, Tryd.ntmps19
      go_wp2_with fail
      go_ret
      exact ⟨by simp [hy], Q.out⟩
  · have M' := M.out
    rw [decide_eq_false (fun k => hx k.1)] at M'
    subst M'
    clear e2 M
    go_enter Tryd.func19, Tryd.ntmps19
    go_wp2_with fail
    go_ret
    exact ⟨by simp, Q.out⟩

theorem kn1 : kn 1 = loop := rfl
theorem kn0 : kn 0 = nil := rfl
theorem scope_mult {xs : List Int} (h : xs.getD 0 0 = 255) : scope xs = xs.getD 1 0 % 16 := by unfold scope; rw [if_pos h]
theorem scope_link {xs : List Int} (h : xs.getD 0 0 ≠ 255) (k : xs = loop ∨ (xs.getD 0 0 = 254 ∧ xs.getD 1 0 / 64 = 2)) : scope xs = 2 := by unfold scope; rw [if_neg h, if_pos k]
theorem scope_none {xs : List Int} (h : xs = nil) : scope xs = 0 := by subst h; decide
theorem scope_else {xs : List Int} (h : xs.getD 0 0 ≠ 255) (k : ¬ (xs = loop ∨ (xs.getD 0 0 = 254 ∧ xs.getD 1 0 / 64 = 2))) (n : xs ≠ nil) : scope xs = 14 := by unfold scope; rw [if_neg h, if_neg k, if_neg n]

theorem scope_any (xs : List Int) (w : World) (h : Ok xs) (hk : Knw w) : Calls Tryd.prog 21 #[av xs] w fun e w' => e = .returned (.int .i64 (scope xs)) ∧ Below w.heap.size w w' := by
  have q := below_new w (.cells (bv xs).toArray 23)
  have R := row_new (w := w) (g := w.heap.size) (cs := (bv xs).toArray) (t := 23) rfl
  have hk1 := hk.keep q
  go_enter Tryd.func21, Tryd.ntmps21
  have L1 := veil (load_rng (rng_row R) h.len)
  have K1 := veil (isMulticast_any xs (w.alloc (.cells (bv xs).toArray 23)) h)
  have H := veil h
  have HK := veil hk1
  clear h hk hk1
  go_wp2_with (refine wpList_load_of rfl _ rfl rfl L1.out ?_)
  refine (K1.out).mono ?_
  rintro e w1 ⟨rfl, q1⟩
  have R1 := veil (R.keep q1)
  have hk1 := veil (HK.out.keep q1)
  have Q1 := veil (q.trans (q1.mono q.size))
  clear R q L1 K1 HK q1
  have M : Hid (mult xs = decide (xs.getD 0 0 = 255)) := rfl
  cases hm : mult xs with
  | true =>
    rw [hm] at M
    have hx : xs.getD 0 0 = 255 := of_decide_eq_true M.out.symm
    have c1 := rng_at (rng_row R1.out) (j := 1) (by rw [H.out.len]; omega)
    have e := and_low (H.out.at 1)
    have S := veil (scope_mult hx)
    have hb := H.out.at 1
    generalize xs.getD 1 0 = x1 at *
    clear hx M R1 H hk1 hm
    go_wp2_with fail
    go_ret
    rw [S.out, ← e]
    exact ⟨by simp, Q1.out⟩
  | false =>
    rw [hm] at M
    have hx : xs.getD 0 0 ≠ 255 := of_decide_eq_false M.out.symm
    have L2 := veil (load_rng (rng_row R1.out) H.out.len)
    have L3 := veil (hk1.out.load 1 16 (by omega) rfl)
    have L4 := veil (hk1.out.load 0 0 (by omega) rfl)
    have E1 : ∀ u, (binOp .eql 23 (av xs) (av (kn 1))).run Tryd.prog u = .ok (.bool (decide (xs = kn 1))) u := fun u => eql_any u H.out.len (kn_len (by omega)) rfl
    have hx := veil hx
    have K2 := veil (isLinkLocal_any xs w1 H.out)
    by_cases h1 : xs = kn 1
    · rw [decide_eq_true h1] at E1
      have S := veil (scope_link hx.out (Or.inl (by rw [← kn1]; exact h1)))
      clear h1
      clear hx M R1 hm
      go_wp2_with (first
        | (refine wpList_load_of rfl _ rfl rfl L2.out ?_)
        | (refine wpList_load_of rfl _ rfl rfl L3.out ?_))
      go_ret
      exact ⟨by rw [S.out] <;> rfl, Q1.out⟩
    · rw [decide_eq_false h1] at E1
      have H1 := veil h1
      clear h1
      go_wp2_with (first
        | (refine wpList_load_of rfl _ rfl rfl L2.out ?_)
        | (refine wpList_load_of rfl _ rfl rfl L3.out ?_))
      refine (K2.out).mono ?_
      rintro e w2 ⟨rfl, q2⟩
      have R2 := veil (R1.out.keep q2)
      have hk2 := veil (hk1.out.keep q2)
      have Q2 := veil (Q1.out.trans (q2.mono Q1.out.size))
      have M2 : Hid (ll xs = decide (xs.getD 0 0 = 254 ∧ xs.getD 1 0 / 64 = 2)) := rfl
      have L5 := veil (load_rng (rng_row R2.out) H.out.len)
      have L6 := veil (hk2.out.load 0 0 (by omega) rfl)
      have E2 : ∀ u, (binOp .eql 23 (av xs) (av (kn 0))).run Tryd.prog u = .ok (.bool (decide (xs = kn 0))) u := fun u => eql_any u H.out.len (kn_len (by omega)) rfl
      clear L2 L3 L4 K2 R1 hk1 Q1 E1 q2
      cases hl : ll xs with
      | true =>
        rw [hl] at M2
        have S := veil (scope_link hx.out (Or.inr (of_decide_eq_true M2.out.symm)))
        clear hx M M2 R2 hm hl
        go_wp2_with fail
        go_ret
        exact ⟨by rw [S.out] <;> rfl, Q2.out⟩
      | false =>
        rw [hl] at M2
        have n2 : ¬ (xs = loop ∨ (xs.getD 0 0 = 254 ∧ xs.getD 1 0 / 64 = 2)) := fun k => k.elim (fun k1 => H1.out (by rw [kn1]; exact k1)) (of_decide_eq_false M2.out.symm)
        by_cases h0 : xs = kn 0
        · rw [decide_eq_true h0] at E2
          have S := veil (scope_none (xs := xs) (h0.trans kn0))
          clear h0
          have n2 := veil n2
          clear hx M M2 R2 hm hl n2
          go_wp2_with (first
            | (refine wpList_load_of rfl _ rfl rfl L5.out ?_)
            | (refine wpList_load_of rfl _ rfl rfl L6.out ?_))
          go_ret
          exact ⟨by rw [S.out] <;> rfl, Q2.out⟩
        · rw [decide_eq_false h0] at E2
          have S := veil (scope_else hx.out n2 (by rw [← kn0]; exact h0))
          clear hx M M2 R2 hm hl n2 h0
          go_wp2_with (first
            | (refine wpList_load_of rfl _ rfl rfl L5.out ?_)
            | (refine wpList_load_of rfl _ rfl rfl L6.out ?_))
          go_ret
          exact ⟨by rw [S.out] <;> rfl, Q2.out⟩

set_option maxHeartbeats 2000000 in
theorem solicited_any (xs : List Int) (w : World) (h : Ok xs) : Calls Tryd.prog 23 #[av xs] w fun e w' => e = .returned (av (sol xs)) ∧ Below w.heap.size w w' := by
  go_enter Tryd.func23, Tryd.ntmps23
  obtain ⟨Z, hZ⟩ : ∃ Z : Array Value, Z = #[.int .u8 0, .int .u8 0, .int .u8 0, .int .u8 0, .int .u8 0, .int .u8 0, .int .u8 0, .int .u8 0, .int .u8 0, .int .u8 0, .int .u8 0, .int .u8 0, .int .u8 0, .int .u8 0, .int .u8 0, .int .u8 0] := ⟨_, rfl⟩
  have hs : Z.size = 16 := by rw [hZ]; rfl
  have q0 := below_new w (.cells (bv xs).toArray 23)
  have r0 := rng_row (row_new (w := w) (g := w.heap.size) (cs := (bv xs).toArray) (t := 23) rfl)
  have z0 : (w.alloc (.cells (bv xs).toArray 23)).heap.size = w.heap.size + 1 := by simp
  obtain ⟨w0, hw0⟩ : ∃ w0, w.alloc (.cells (bv xs).toArray 23) = w0 := ⟨_, rfl⟩
  rw [hw0] at q0 r0 z0
  have q1 := below_new w0 (.cells Z 23)
  have R := row_new (w := w0) (g := w.heap.size + 1) (cs := Z) (t := 23) z0.symm
  have r1 := rng_keep r0 q1
  have Q := q0.trans (q1.mono q0.size)
  have c13 := rng_at r1 (j := 13) (by rw [h.len]; omega)
  have c14 := rng_at r1 (j := 14) (by rw [h.len]; omega)
  have c15 := rng_at r1 (j := 15) (by rw [h.len]; omega)
  have O := sol_ok h
  have T := veil (store_row R hs O.len)
  have R' := veil (R.setRow (bv (sol xs)).toArray)
  have q' := veil (below_setRow Q (w.heap.size + 1) (bv (sol xs)).toArray (by omega))
  have hl := sizeOk O.len
  have B : Hid ((Instr.build 23 #[(0, .int .u8 255), (1, .int .u8 2), (11, .int .u8 1), (12, .int .u8 255), (13, .int .u8 (xs.getD 13 0)), (14, .int .u8 (xs.getD 14 0)), (15, .int .u8 (xs.getD 15 0))]).run Tryd.prog (w0.alloc (.cells Z 23)) = .ok (av (sol xs)) (w0.alloc (.cells Z 23))) := by
    unfold Hid sol
    generalize xs.getD 13 0 = a
    generalize xs.getD 14 0 = b
    generalize xs.getD 15 0 = c
    kernel_rfl
  generalize xs.getD 13 0 = a at *
  generalize xs.getD 14 0 = b at *
  generalize xs.getD 15 0 = c at *
  generalize sol xs = ys at *
  clear R q0 r0 q1 Q hs h O r1
  subst hZ hw0
  go_wp2_with (first
    | (refine wpList_build_of rfl _ _ rfl _ (by simp [Act.eval]) B.out ?_)
    | (refine wpList_store_of rfl _ _ rfl rfl rfl T.out ?_))
  refine bodyPost_ret (results_cell_row rfl _ _ (w.heap.size + 1) _ _ (0, 0) _ rfl R'.out Tryd.underlying23 rfl (by simpa using hl)) rfl ?_
  exact ⟨rfl, q'.out⟩

end Go.Proofs.YtcdcdnibligjnaaDoor.Ad
