/-
  The pseudo header: two addresses, the length in four bytes, three noughts, and the protocol; what was there stays.
  Conditions: each address has 16 bytes.
-/
import Derived.Test.YtoadligcfecpfaaMem
import Derived.Test.YtoadligcfecpfaaSumNum
import Derived.StillTailTactics
import Derived.Deep.RegionLaw
import Derived.BigRegion
namespace Go.Proofs.Ytoadligcfecpfaa
open Go.RowKit

/-- the pseudo header -/
def ph (s d : List Int) (n nx : Int) : List Int := s ++ (d ++ (be n 4 ++ [0, 0, 0, nx]))

/-- one copy, by what it comes to -/
theorem wpList_copy_of {P : Program} {w w' : World} {ops : Array Oper} {rest : List Oper} {o : Oper} {a : Act} {Q : Exit → Act → World → Prop} {t t' : TypeId} {v u r : Value} (hgd : o.guard = none) (s x : Operand)
    (ho : o.op = .call { callee := .builtin .copy, args := #[s, x], argTypes := #[t, t'] }) (hs : a.eval s = v) (hx : a.eval x = u)
    (hrun : (Builtin.copy_ #[t, t'] o.type #[v, u]).run P w = .ok r w') (h : wpList P ops Q rest (a.put o.dst r) w') : wpList P ops Q (o :: rest) a w := by
  refine wpList_plain hgd fun K hK => ?_
  unfold Oper.wp execOp
  simp only [ho, resolve, invoke, builtin, Sem.run_bind, Sem.run_pure, Result.andThen_ok, List.map_toArray, List.map_cons, List.map_nil, hs, hx, hrun]
  exact hK _ _ h

/-- the same as one step of a region that draws -/
theorem step_copy_of {P : Program} {ops : Array Oper} {o : Oper} {a : Act} {w w' : World} {K : Act → World → Prop} {Q : Exit → Act → World → Prop} {E : Prop} {t t' : TypeId} {v u r : Value} (hgd : o.guard = none) (s x : Operand)
    (ho : o.op = .call { callee := .builtin .copy, args := #[s, x], argTypes := #[t, t'] }) (hs : a.eval s = v) (hx : a.eval x = u)
    (hrun : (Builtin.copy_ #[t, t'] o.type #[v, u]).run P w = .ok r w') (h : K (a.put o.dst r) w') : if Region.wanted o (yielded ops a.tmps) = true then Oper.wp P o a w K Q else E := by
  have hw : Region.wanted o (yielded ops a.tmps) = true := by simp [Region.wanted, hgd]
  rw [if_pos hw]
  unfold Oper.wp execOp
  simp only [ho, resolve, invoke, builtin, Sem.run_bind, Sem.run_pure, Result.andThen_ok, List.map_toArray, List.map_cons, List.map_nil, hs, hx, hrun]
  exact h

theorem wpList_wanted {P : Program} {w : World} {ops : Array Oper} {rest : List Oper} {o : Oper} {a : Act} {Q : Exit → Act → World → Prop} (hw : Region.wanted o (yielded ops a.tmps) = true)
    (h : ∀ K : Act → World → Prop, (∀ a w, wpList P ops Q rest a w → K a w) → o.wp P a w K Q) : wpList P ops Q (o :: rest) a w :=
  wpList_step fun K hK => by rw [if_pos hw]; exact h K hK

/-- one append, by what it comes to, guarded or not -/
theorem wpList_append_w {P : Program} {w w' : World} {ops : Array Oper} {rest : List Oper} {o : Oper} {a : Act} {Q : Exit → Act → World → Prop} {t : TypeId} {v u v' : Value} (hw : Region.wanted o (yielded ops a.tmps) = true) (s x : Operand)
    (ho : o.op = .call { callee := .builtin .append, args := #[s, x], argTypes := #[t, t] }) (hs : a.eval s = v) (hx : a.eval x = u)
    (hrun : (Builtin.append_ #[t, t] o.type #[v, u]).run P w = .ok v' w') (h : wpList P ops Q rest (a.put o.dst v') w') : wpList P ops Q (o :: rest) a w := by
  refine wpList_wanted hw fun K hK => ?_
  unfold Oper.wp execOp
  simp only [ho, resolve, invoke, builtin, Sem.run_bind, Sem.run_pure, Result.andThen_ok, List.map_toArray, List.map_cons, List.map_nil, hs, hx, hrun]
  exact hK _ _ h

/-- one load, one store, by what it comes to -/
theorem wpList_load_of {P : Program} {w : World} {ops : Array Oper} {rest : List Oper} {o : Oper} {a : Act} {Q : Exit → Act → World → Prop} {t : TypeId} {v p : Value} (hw : Region.wanted o (yielded ops a.tmps) = true) (x : Operand)
    (ho : o.op = .load t x) (hx : a.eval x = p) (hrun : (Instr.loadAt t p).run P w = .ok v w) (h : wpList P ops Q rest (a.put o.dst v) w) : wpList P ops Q (o :: rest) a w := by
  refine wpList_wanted hw fun K hK => ?_
  unfold Oper.wp execOp
  simp only [ho, hx, hrun, Sem.run_bind, Sem.run_pure, Result.andThen_ok]
  exact hK _ _ h
theorem wpList_store_of {P : Program} {w w' : World} {ops : Array Oper} {rest : List Oper} {o : Oper} {a : Act} {Q : Exit → Act → World → Prop} {t : TypeId} {v p : Value} (hgd : o.guard = none) (x y : Operand)
    (ho : o.op = .store t x y) (hx : a.eval x = p) (hy : a.eval y = v) (hrun : (Instr.storeAt t p v).run P w = .ok () w') (h : wpList P ops Q rest (a.put o.dst undef) w') : wpList P ops Q (o :: rest) a w := by
  refine wpList_plain hgd fun K hK => ?_
  have hK' := hK _ w' h
  unfold Oper.wp execOp
  simp only [ho, hx, hy, hrun, Sem.run_bind, Sem.run_pure, Result.andThen_ok]
  simpa [Oper.upon] using hK'

/-- bytes copied from a row into a row, at a place -/
theorem run_copy_at (g o N c : Nat) (t : TypeId) (cur : List Value) (A : Option Addr) (n c2 : Nat) (zs : List Int) (w : World) (ty : TypeId) (hl : zs.length = n) (hr : Rd w A zs) (h0 : 0 < n) (hg : Row w g t cur.toArray) (hn : n ≤ N) (ho : o + n ≤ cur.length) :
    (Builtin.copy_ #[22, 22] ty #[.slice (some ⟨g, o, none⟩) N c, .slice A n c2]).run Try.prog w = .ok (goInt n) (w.setRow g (cur.take o ++ bv zs ++ cur.drop (o + n)).toArray) := by
  obtain ⟨i, hi, hz0, hz1, hz2⟩ := info_parts info_u8
  have hsz : (Try.prog.info? 5).map (·.size) = some 1 := by rw [hi]; simp [hz1]
  obtain ⟨a, rfl, _⟩ := hr 0 (by omega)
  have h := run_copy_row (P := Try.prog) w 22 22 ty 5 g o N c a n c2 cur.toArray t (bv zs) Try.underlying22 hsz hg (by rw [bv_length, hl]; exact (Nat.min_eq_left hn).symm)
    (rd_list hr) (by rw [bv_length]; simp; omega) (bv_one zs)
  simpa [bv_length, hl] using h

theorem Row.setRow {w : World} {g : Nat} {t : TypeId} {cs : Array Value} (h : Row w g t cs) (c' : Array Value) : Row (w.setRow g c') g t c' := setRow_heap w g cs c' t _ h

theorem row_setRow_far {w : World} {g k : Nat} {t : TypeId} {cs : Array Value} (h : Row w g t cs) (c' : Array Value) (hne : g ≠ k) : Row (w.setRow k c') g t cs := by
  unfold Row at h ⊢
  unfold World.setRow
  rw [Array.getElem?_modify, if_neg (fun e => hne e.symm)]
  exact h

theorem below_setRow {B : Nat} {a w : World} (h : Below B a w) (k : Nat) (c' : Array Value) (hk : B ≤ k) : Below B a (w.setRow k c') := by
  refine h.trans ⟨rfl, rfl, rfl, by simp [World.setRow], fun i hi => ?_⟩
  unfold World.setRow
  rw [Array.getElem?_modify, if_neg (by omega)]

theorem still_row {w : World} {g : Nat} {t : TypeId} {cs : Array Value} (h : Row w g t cs) : Row w.drew g t cs := h
theorem still_below {B : Nat} {a w : World} (h : Below B a w) : Below B a w.drew := ⟨h.os, h.tape, h.output, h.size, h.block⟩

/-- the header as it is filled: behind j bytes of the length -/
def phAt (s d : List Int) (n : Int) (j : Nat) : List Int := s ++ (d ++ ((be n 4).take j ++ List.replicate (8 - j) 0))

theorem phAt_length (s d : List Int) (n : Int) (j : Nat) (hs : s.length = 16) (hd : d.length = 16) (hj : j ≤ 4) : (phAt s d n j).length = 40 := by
  simp [phAt, be_length, hs, hd]
  omega

theorem phAt_set (s d : List Int) (n : Int) (j : Nat) (hs : s.length = 16) (hd : d.length = 16) (hj : j < 4) : (phAt s d n j).set (32 + j) (n / 256 ^ (3 - j) % 256) = phAt s d n (j + 1) := by
  have e1 : ((be n 4).take j).length = j := by simp [be_length]; omega
  unfold phAt
  rw [List.set_append_right _ _ (by omega), List.set_append_right _ _ (by omega), List.set_append_right _ _ (by omega), e1, hs, hd, be_at n 4 j hj]
  rw [show 32 + j - 16 - 16 - j = 0 by omega, show 8 - j = (8 - (j + 1)) + 1 by omega, List.replicate_succ, List.set_cons_zero]
  simp

theorem phAt_end (s d : List Int) (n nx : Int) (hs : s.length = 16) (hd : d.length = 16) : (phAt s d n 4).set 39 nx = ph s d n nx := by
  have e1 : (be n 4).length = 4 := be_length n 4
  unfold phAt ph
  rw [List.take_of_length_le (by omega), List.set_append_right _ _ (by omega), List.set_append_right _ _ (by omega), List.set_append_right _ _ (by omega), e1, hs, hd]
  rfl

theorem pow_at (j : Nat) (h : j < 4) : (2 : Int) ^ (24 - 8 * j) = 256 ^ (3 - j) := by
  match j, h with
  | 0, _ => rfl
  | 1, _ => rfl
  | 2, _ => rfl
  | 3, _ => rfl

theorem bv_set (zs : List Int) (i : Nat) (z : Int) : (bv zs).set i (.int .u8 z) = bv (zs.set i z) := by simp [bv, List.map_set]

theorem ph_length (s d : List Int) (n nx : Int) (hs : s.length = 16) (hd : d.length = 16) : (ph s d n nx).length = 40 := by simp [ph, be_length, hs, hd]

theorem size40 : (Try.prog.info? 51).map (·.size) = some 40 := by kernel_rfl

set_option maxHeartbeats 2000000 in
theorem pseudo_any (s d : List Int) (nx : Int) (n : Nat) (w : World) (hs : s.length = 16) (hd : d.length = 16) :
    Calls Try.prog 20 #[.agg (bv s).toArray, .agg (bv d).toArray, .int .u8 nx, .int .i64 n] w fun e w' => e = .returned (.agg (bv (ph s d n nx)).toArray) ∧ Below w.heap.size w w' := by
  have HS := veil hs
  have HD := veil hd
  clear hs hd
  go_enter Try.func20, Try.ntmps20
  go_wp2_with fail
  have eZ : Hid ((bv (List.replicate 40 0)).toArray = #[.int .u8 0, .int .u8 0, .int .u8 0, .int .u8 0, .int .u8 0, .int .u8 0, .int .u8 0, .int .u8 0, .int .u8 0, .int .u8 0, .int .u8 0, .int .u8 0, .int .u8 0, .int .u8 0, .int .u8 0, .int .u8 0, .int .u8 0, .int .u8 0, .int .u8 0, .int .u8 0, .int .u8 0, .int .u8 0, .int .u8 0, .int .u8 0, .int .u8 0, .int .u8 0, .int .u8 0, .int .u8 0, .int .u8 0, .int .u8 0, .int .u8 0, .int .u8 0, .int .u8 0, .int .u8 0, .int .u8 0, .int .u8 0, .int .u8 0, .int .u8 0, .int .u8 0, .int .u8 0]) := rfl
  rw [← eZ.out]
  generalize hZ : (bv (List.replicate 40 0)).toArray = Z at *
  have q0 := below_new w (.cells (bv s).toArray 31)
  have r0 : Row (w.alloc (.cells (bv s).toArray 31)) w.heap.size 31 (bv s).toArray := row_new rfl
  have z0 : (w.alloc (.cells (bv s).toArray 31)).heap.size = w.heap.size + 1 := by simp
  generalize w.alloc (.cells (bv s).toArray 31) = w0 at *
  have q1 := q0.trans ((below_new w0 (.cells (bv d).toArray 31)).mono (by omega))
  have r1 : Row (w0.alloc (.cells (bv d).toArray 31)) (w.heap.size + 1) 31 (bv d).toArray := row_new z0.symm
  have r01 := r0.keep (below_new w0 (.cells (bv d).toArray 31))
  have z1 : (w0.alloc (.cells (bv d).toArray 31)).heap.size = w.heap.size + 1 + 1 := by simp [z0]
  clear r0 q0
  generalize w0.alloc (.cells (bv d).toArray 31) = w1 at *
  have q2 := q1.trans ((below_new w1 (.cells Z 51)).mono (by omega))
  have r2 : Row (w1.alloc (.cells Z 51)) (w.heap.size + 1 + 1) 51 Z := row_new z1.symm
  have r12 := r1.keep (below_new w1 (.cells Z 51))
  have r02 := r01.keep (below_new w1 (.cells Z 51))
  have z2 : (w1.alloc (.cells Z 51)).heap.size = w.heap.size + 1 + 1 + 1 := by simp [z1]
  clear r1 r01 q1
  generalize w1.alloc (.cells Z 51) = w2 at *
  have q3 := q2.trans ((below_new w2 (.cells Z 51)).mono (by omega))
  have r3 : Row (w2.alloc (.cells Z 51)) (w.heap.size + 1 + 1 + 1) 51 Z := row_new z2.symm
  have r23 := r2.keep (below_new w2 (.cells Z 51))
  have r13 := r12.keep (below_new w2 (.cells Z 51))
  have r03 := r02.keep (below_new w2 (.cells Z 51))
  clear r2 r12 r02 q2
  generalize w2.alloc (.cells Z 51) = w3 at *
  subst hZ
  clear z0 z1 z2 w2 w1 w0 eZ
  have R0 := veil (still_row r03)
  have R1 := veil (still_row r13)
  have R2 := veil (still_row r23)
  have R3 := veil (still_row r3)
  have QB := veil (still_below q3)
  clear r03 r13 r23 r3 q3
  go_still_tail 2, (by kernel_rfl)
  change wpList _ _ _ _ _ w3.drew
  generalize w3.drew = w4 at *
  clear w3
  have c1 := veil (run_copy_at (w.heap.size + 1 + 1 + 1) 0 40 40 _ (bv (List.replicate 40 0)) (some ⟨w.heap.size, 0, none⟩) 16 16 s w4 3 HS.out (rd_lit R0.out rfl) (by omega) R3.out (by omega) (by simp [bv]))
  refine wpList_copy_of rfl (.tmp 12) (.tmp 13) rfl rfl rfl c1.out ?_
  have R1' := veil (row_setRow_far R1.out ((bv (List.replicate 40 0)).take 0 ++ bv s ++ (bv (List.replicate 40 0)).drop (0 + 16)).toArray (k := w.heap.size + 1 + 1 + 1) (by omega))
  have R2' := veil (row_setRow_far R2.out ((bv (List.replicate 40 0)).take 0 ++ bv s ++ (bv (List.replicate 40 0)).drop (0 + 16)).toArray (k := w.heap.size + 1 + 1 + 1) (by omega))
  have R3' := veil (R3.out.setRow ((bv (List.replicate 40 0)).take 0 ++ bv s ++ (bv (List.replicate 40 0)).drop (0 + 16)).toArray)
  have QB' := veil (below_setRow QB.out (w.heap.size + 1 + 1 + 1) ((bv (List.replicate 40 0)).take 0 ++ bv s ++ (bv (List.replicate 40 0)).drop (0 + 16)).toArray (by omega))
  generalize w4.setRow (w.heap.size + 1 + 1 + 1) ((bv (List.replicate 40 0)).take 0 ++ bv s ++ (bv (List.replicate 40 0)).drop (0 + 16)).toArray = w5 at *
  rw [show (bv (List.replicate 40 0)).take 0 ++ bv s ++ (bv (List.replicate 40 0)).drop (0 + 16) = bv (s ++ List.replicate 24 0) by simp [bv]] at R3'
  clear c1 R0 R1 R2 R3 QB w4
  go_wp2_with fail
  have R1 := veil (still_row R1'.out)
  have R2 := veil (still_row R2'.out)
  have R3 := veil (still_row R3'.out)
  have QB := veil (still_below QB'.out)
  clear R1' R2' R3' QB'
  have c1 := run_copy_at (w.heap.size + 1 + 1 + 1) 16 24 24 _ (bv (s ++ List.replicate 24 0)) (some ⟨w.heap.size + 1, 0, none⟩) 16 16 d w5.drew 3 HD.out (rd_lit R1.out rfl) (by omega) R3.out (by omega) (by simp [bv, HS.out])
  have e2 : (bv (s ++ List.replicate 24 0)).take 16 ++ bv d ++ (bv (s ++ List.replicate 24 0)).drop (16 + 16) = bv (phAt s d n 0) := by
    have hs := HS.out
    simp only [bv, phAt, List.map_append, List.map_replicate, List.take_zero, List.nil_append]
    rw [List.take_append_of_le_length (by simp; omega), List.take_of_length_le (by simp; omega), List.drop_append, List.drop_of_length_le (by simp; omega)]
    simp [hs]
  rw [e2] at c1
  clear e2
  have R2' := veil (row_setRow_far R2.out (bv (phAt s d n 0)).toArray (k := w.heap.size + 1 + 1 + 1) (by omega))
  have R3' := veil (R3.out.setRow (bv (phAt s d n 0)).toArray)
  have QB' := veil (below_setRow QB.out (w.heap.size + 1 + 1 + 1) (bv (phAt s d n 0)).toArray (by omega))
  generalize w5.drew.setRow (w.heap.size + 1 + 1 + 1) (bv (phAt s d n 0)).toArray = w7 at *
  have C1 := veil c1
  clear c1 R1 R2 R3 QB
  go_region_law (refine step_copy_of rfl (.tmp 17) (.tmp 18) rfl rfl rfl C1.out ?_)
  clear C1 w5
  go_wp2_with fail
  go_loopw [21] (fun i wr => ∃ j : Nat, j ≤ 4 ∧ i = .int .i64 j ∧ Hid (Row wr (w.heap.size + 1 + 1) 51 (bv (List.replicate 40 0)).toArray ∧ Row wr (w.heap.size + 1 + 1 + 1) 51 (bv (phAt s d n j)).toArray ∧ Below w.heap.size w wr)) (fun i _ => 4 - (intOf i).toNat)
  case atStart => exact ⟨0, by omega, rfl, R2'.out, R3'.out, QB'.out⟩
  case round =>
    obtain ⟨j, hj, rfl, hR⟩ := hrel
    clear R2' R3' QB'
    by_cases hlt : j < 4
    · have r3 := hR.out.2.1
      have hL := phAt_length s d n j HS.out HD.out hj
      have c3 : wr.cell? ⟨w.heap.size + 1 + 1 + 1, 32 + j, none⟩ = some (.int .u8 ((phAt s d n j).getD (32 + j) 0)) := by rw [r3.cell]; simpa using bv_get (phAt s d n j) (32 + j) (by omega)
      have f3 : wr.frozen? ⟨w.heap.size + 1 + 1 + 1, 32 + j, none⟩ = false := r3.frozen _
      generalize (phAt s d n j).getD (32 + j) 0 = old at c3
      clear r3 hL
      go_wp2_with fail
      go_roundw
      case rel =>
        rw [pow_at j hlt]
        refine ⟨j + 1, by omega, by go_num, hR.out.1.far (by simp) _, ?_, hR.out.2.2.setCell (p := ⟨w.heap.size + 1 + 1 + 1, 32 + j, none⟩) (by simp; omega) _⟩
        have h := hR.out.2.1.set (32 + j) (.int .u8 ((n : Int) / 256 ^ (3 - j) % 256))
        rw [List.setIfInBounds_toArray, bv_set, phAt_set s d n j HS.out HD.out hlt] at h
        exact h
      case measure => simp [intOf]; omega
    · obtain rfl : j = 4 := by omega
      have r3 := hR.out.2.1
      have hL := phAt_length s d n 4 HS.out HD.out hj
      have c3 : wr.cell? ⟨w.heap.size + 1 + 1 + 1, 39, none⟩ = some (.int .u8 ((phAt s d n 4).getD 39 0)) := by rw [r3.cell]; simpa using bv_get (phAt s d n 4) 39 (by omega)
      have f3 : wr.frozen? ⟨w.heap.size + 1 + 1 + 1, 39, none⟩ = false := r3.frozen _
      generalize (phAt s d n 4).getD 39 0 = old at c3
      have r4 := r3.set 39 (.int .u8 nx)
      rw [List.setIfInBounds_toArray, bv_set, phAt_end s d n nx HS.out HD.out] at r4
      have r2 := hR.out.1.far (p := ⟨w.heap.size + 1 + 1 + 1, 39, none⟩) (by simp) (.int .u8 nx)
      have q2 := hR.out.2.2.setCell (p := ⟨w.heap.size + 1 + 1 + 1, 39, none⟩) (by simp; omega) (.int .u8 nx)
      have hZ : (ph s d n nx).length = 40 := ph_length s d n nx HS.out HD.out
      have hld : (Instr.loadAt 51 (.pointer (some ⟨w.heap.size + 1 + 1 + 1, 0, none⟩))).run Try.prog (wr.setCell ⟨w.heap.size + 1 + 1 + 1, 39, none⟩ (.int .u8 nx)) = .ok (.agg (bv (ph s d n nx)).toArray) (wr.setCell ⟨w.heap.size + 1 + 1 + 1, 39, none⟩ (.int .u8 nx)) := by
        simp only [Instr.loadAt, Instr.sureAddr, Sem.run_bind, Sem.run_pure, Result.andThen]
        exact run_loadVar_row _ _ _ _ _ (0, 0) _ r4 Try.underlying51 rfl (by rw [size40]; simp [bv, hZ])
      have hst : (Instr.storeAt 51 (.pointer (some ⟨w.heap.size + 1 + 1, 0, none⟩)) (.agg (bv (ph s d n nx)).toArray)).run Try.prog (wr.setCell ⟨w.heap.size + 1 + 1 + 1, 39, none⟩ (.int .u8 nx)) = .ok () ((wr.setCell ⟨w.heap.size + 1 + 1 + 1, 39, none⟩ (.int .u8 nx)).setRow (w.heap.size + 1 + 1) (bv (ph s d n nx)).toArray) := by
        simp only [Instr.storeAt, Instr.sureAddr, Sem.run_bind, Sem.run_pure, Result.andThen]
        exact run_storeVar_row _ _ _ _ _ _ r2 (by rw [size40]; simp [bv, hZ]) (by simp [bv, hZ]) (by simp [bv, Value.oneCell'])
      have R5 := veil (r2.setRow (bv (ph s d n nx)).toArray)
      have Q5 := veil (below_setRow q2 (w.heap.size + 1 + 1) (bv (ph s d n nx)).toArray (by omega))
      clear r3 r4 r2 q2 hL hR
      have HLD := veil hld
      have HST := veil hst
      clear hld hst
      go_wp2_with (first
        | (refine wpList_load_of rfl (.tmp 9) rfl rfl HLD.out ?_)
        | (refine wpList_store_of rfl (.tmp 8) (.tmp 37) rfl rfl rfl HST.out ?_))
      refine bodyPost_ret (results_cell_row rfl _ _ (w.heap.size + 1 + 1) _ _ (0, 0) _ rfl R5.out Try.underlying51 rfl (by rw [size40]; simp [bv, hZ])) rfl ?_
      exact ⟨rfl, Q5.out⟩

end Go.Proofs.Ytoadligcfecpfaa
