/-
  The frame of bytes, by the document's answer: whatever bytes there are.
  Conditions: at most 1514 bytes where there is a frame.
-/
import Derived.Test.YtihhbniceiammaaFrmG
import Derived.Test.YtihhbniceiammaaGrow
namespace Go.Proofs.Ytihhbniceiammaa.Et
open Go.RowKit

/-- one store as one step of a region that draws -/
theorem wp_store_of {P : Program} {o : Oper} {a : Act} {w w' : World} {K : Act → World → Prop} {Q : Exit → Act → World → Prop} {t : TypeId} {v p : Value} (x y : Operand)
    (ho : o.op = .store t x y) (hx : a.eval x = p) (hy : a.eval y = v) (hrun : (Instr.storeAt t p v).run P w = .ok () w') (h : K (a.put o.dst undef) w') : Oper.wp P o a w K Q := by
  unfold Oper.wp execOp
  simp only [ho, hx, hy, hrun, Sem.run_bind, Sem.run_pure, Result.andThen_ok]
  simpa [Oper.upon] using h
/-- a value that a literal makes, in a region that draws its order -/
theorem yieldsIf_build {P : Program} {ops : Array Oper} {S : World → Prop} {op : Oper} {a : Act} {v : Value} (hw : Region.wanted op (yielded ops a.tmps) = true) (t : TypeId) (ps : Array (Nat × Operand)) (ho : op.op = .build t ps) (vs : Array (Nat × Value)) (hx : ps.map (fun p => (p.1, a.eval p.2)) = vs)
    (hrun : ∀ w, (Instr.build t vs).run P w = .ok v w) : YieldsIf P ops S op v a :=
  .inl ⟨hw, fun w _ => by
    unfold execOp
    simp only [ho, hx, hrun, Sem.run_bind, Sem.run_pure, Result.andThen_ok]⟩
/-- what stands behind the first k elements of a slice -/
theorem slc_drop {w : World} {A : Option Addr} {n c k : Nat} {zs : List Int} (h : Slc w (.slice A n c) zs) (hk : k ≤ n) : Slc w (.slice (cutA A c k) (n - k) (c - k)) (zs.drop k) := by
  rcases h with ⟨e, rfl⟩ | ⟨a, c', e, hr, hc⟩
  · injection e with e1 e2 e3
    subst e1 e2 e3
    obtain rfl : k = 0 := by omega
    exact .inl ⟨by simp [cutA], by simp⟩
  · injection e with e1 e2 e3
    subst e1 e2 e3
    refine .inr ?_
    by_cases e : c = k
    · refine ⟨a, 0, ?_, fun j hj => ?_, by simp; omega⟩
      · simp only [cutA, if_pos e, List.length_drop]
        congr 1
        omega
      · simp at hj
        omega
    · refine ⟨a.add k, c - k, ?_, fun j hj => ⟨_, rfl, ?_⟩, by simp; omega⟩
      · simp only [cutA, if_neg e, List.length_drop, Option.map_some]
      · obtain ⟨a', e', hcell⟩ := hr (k + j) (by simp at hj; omega)
        injection e' with e'
        subst e'
        have ea : (a.add k).add j = a.add (k + j) := by
          by_cases hk0 : k = 0
          · subst hk0
            simp [Addr.add]
          · by_cases hj0 : j = 0
            · subst hj0
              simp [Addr.add]
            · simp [Addr.add, hk0, hj0, Nat.add_assoc]
        rw [ea, hcell]
        simp [List.getD]

/-- the first j elements of l, and noughts behind them -/
def part (l : List Int) (j : Nat) : List Int := l.take j ++ List.replicate (l.length - j) 0
theorem part_len {l : List Int} {j : Nat} (h : j ≤ l.length) : (part l j).length = l.length := by simp [part]; omega
theorem part_zero (l : List Int) (h : l.length = 6) : part l 0 = z6 := by simp [part, h, z6]
theorem part_whole (l : List Int) : part l l.length = l := by simp [part]
theorem part_set {l : List Int} {j : Nat} (h : j < l.length) : (bv (part l j)).set j (.int .u8 (l.getD j 0)) = bv (part l (j + 1)) := tw_set l j h
theorem fc_setD {d d' s : List Int} {k : Int} {v u : Value} {j : Nat} (hd : (bv d).set j u = bv d') (hj : j < d.length) : (fc d s k v).set j u = fc d' s k v := by
  unfold fc
  rw [List.set_append_left _ _ (by rw [bv_length]; exact hj), hd]
theorem fc_setS {d s s' : List Int} {k : Int} {v u : Value} {j : Nat} (hl : d.length = 6) (hd : (bv s).set j u = bv s') (hj : j < s.length) : (fc d s k v).set (6 + j) u = fc d s' k v := by
  unfold fc
  rw [List.set_append_right _ _ (by rw [bv_length, hl]; omega), bv_length, hl, Nat.add_sub_cancel_left, List.set_append_left _ _ (by rw [bv_length]; exact hj), hd]
theorem kind_made (k : Int) (w : World) : (Instr.build 27 #[(2, .int .u16 k)]).run Try.prog w = .ok (fv z6 z6 k (.slice none 0 0)) w := by
  show (Instr.build 27 #[(2, .int .u16 k)]).run Try.prog w = .ok (.agg #[.int .u8 0, .int .u8 0, .int .u8 0, .int .u8 0, .int .u8 0, .int .u8 0, .int .u8 0, .int .u8 0, .int .u8 0, .int .u8 0, .int .u8 0, .int .u8 0, .int .u16 k, .slice none 0 0]) w
  kernel_rfl

/-- what a call of the reference's Get answers, where there is a frame -/
def RefFrame (w : World) (zs : List Int) (e : Ending) (w' : World) : Prop :=
  ∃ A c, e = .returned (.tuple #[fv (gd zs) (gs zs) (gk zs) (.slice A (zs.length - 14) c), .int .i64 0]) ∧ Rd w' A (zs.drop 14) ∧ Below w.heap.size w w'

set_option maxHeartbeats 1000000 in
theorem refGet_short (A : Option Addr) (n c : Nat) (w : World) (h : n < 14) : Calls Try.prog 20 #[.slice A n c] w (NoFrame w 5) := by
  unfold NoFrame
  obtain ⟨Z, hZ⟩ : ∃ Z, Z = zf := ⟨_, rfl⟩
  have hz : Hid (Z.toList.length = 14) := by rw [hZ]; exact rfl
  have Y := (Lay.begin w).newA Z 27 (g := w.heap.size) rfl
  have T := veil (frm_store (d := z6) (s := z6) (k := 0) (v := .slice none 0 0) Y mem0 hz.out z6_macs rfl)
  have Y1 := veil (Y.put 0 rfl (fc z6 z6 0 (.slice none 0 0)))
  have B := veil none_made
  have M := z6_macs
  clear Y
  generalize z6 = z at *
  generalize Z.toList = ZL at *
  unfold zf at hZ
  subst hZ
  go_enter Try.func20, Try.ntmps20
  go_wp2_with (first
    | (refine wpList_build_of rfl _ _ rfl _ (by simp [Act.eval]) (B.out _) ?_)
    | (refine wpList_store_of rfl _ _ rfl rfl rfl T.out ?_))
  refine bodyPost_ret (ret_row_tmp rfl rfl rfl (Y1.out.range mem0 (part_all _)) Try.underlying27 rfl (sizeFrm M)) rfl ?_
  exact ⟨rfl, Y1.out.below⟩

set_option maxHeartbeats 1000000 in
theorem refGet_long (A : Option Addr) (n c : Nat) (w : World) (h : 1514 < n) : Calls Try.prog 20 #[.slice A n c] w (NoFrame w 3) := by
  unfold NoFrame
  obtain ⟨Z, hZ⟩ : ∃ Z, Z = zf := ⟨_, rfl⟩
  have hz : Hid (Z.toList.length = 14) := by rw [hZ]; exact rfl
  have Y := (Lay.begin w).newA Z 27 (g := w.heap.size) rfl
  have T := veil (frm_store (d := z6) (s := z6) (k := 0) (v := .slice none 0 0) Y mem0 hz.out z6_macs rfl)
  have Y1 := veil (Y.put 0 rfl (fc z6 z6 0 (.slice none 0 0)))
  have B := veil none_made
  have M := z6_macs
  clear Y
  generalize z6 = z at *
  generalize Z.toList = ZL at *
  unfold zf at hZ
  subst hZ
  go_enter Try.func20, Try.ntmps20
  go_wp2_with (first
    | (refine wpList_build_of rfl _ _ rfl _ (by simp [Act.eval]) (B.out _) ?_)
    | (refine wpList_store_of rfl _ _ rfl rfl rfl T.out ?_))
  refine bodyPost_ret (ret_row_tmp rfl rfl rfl (Y1.out.range mem0 (part_all _)) Try.underlying27 rfl (sizeFrm M)) rfl ?_
  exact ⟨rfl, Y1.out.below⟩

end Go.Proofs.Ytihhbniceiammaa.Et
