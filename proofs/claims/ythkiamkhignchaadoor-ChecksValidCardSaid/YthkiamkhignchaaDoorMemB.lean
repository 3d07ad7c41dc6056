/-
  More words for memory: loads, stores, copies and appends as single steps, guarded or not; rows by value; slices without room; two rows of one's own.
  Conditions: at most 16777216 bytes.
-/
import Derived.Test.YthkiamkhignchaaDoorMem
import Derived.ArgAppend
namespace Go.Proofs.YthkiamkhignchaaDoor
open Go.RowKit

theorem byt_append {a b : List Int} (h : Byt a) (k : Byt b) : Byt (a ++ b) := fun z hz => (List.mem_append.1 hz).elim (h z) (k z)

/-- one copy, by what it comes to -/
theorem wpList_copy_of {P : Program} {w w' : World} {ops : Array Oper} {rest : List Oper} {o : Oper} {a : Act} {Q : Exit → Act → World → Prop} {t t' : TypeId} {v u r : Value} (hgd : o.guard = none) (s x : Operand)
    (ho : o.op = .call { callee := .builtin .copy, args := #[s, x], argTypes := #[t, t'] }) (hs : a.eval s = v) (hx : a.eval x = u)
    (hrun : (Builtin.copy_ #[t, t'] o.type #[v, u]).run P w = .ok r w') (h : wpList P ops Q rest (a.put o.dst r) w') : wpList P ops Q (o :: rest) a w := by
  refine wpList_plain hgd fun K hK => ?_
  unfold Oper.wp execOp
  simp only [ho, resolve, invoke, builtin, Sem.run_bind, Sem.run_pure, Result.andThen_ok, List.map_toArray, List.map_cons, List.map_nil, hs, hx, hrun]
  exact hK _ _ h

/-- the same as one step of a region that draws -/
theorem step_copy_of {P : Program} {ops : Array Oper} {o : Oper} {a : Act} {w w' : World} {K : Act → World → Prop} {Q : Exit → Act → World → Prop} {E : Prop} {t t' : TypeId} {v u r : Value} (hgd : o.guard = none) (s x : Operand)
    (ho : o.op = .call { callee := .builtin .copy, args := #[s, x], argTypes := #[t, t'] }) (hs : a.eval s = v) (hx : a.eval x = u)
    (hrun : (Builtin.copy_ #[t, t'] o.type #[v, u]).run P w = .ok r w') (h : K (a.put o.dst r) w') : if Region.wanted o (yielded ops a.tmps) = true then Oper.wp P o a w K Q else E := by
  have hw : Region.wanted o (yielded ops a.tmps) = true := by simp [Region.wanted, hgd]
  rw [if_pos hw]
  unfold Oper.wp execOp
  simp only [ho, resolve, invoke, builtin, Sem.run_bind, Sem.run_pure, Result.andThen_ok, List.map_toArray, List.map_cons, List.map_nil, hs, hx, hrun]
  exact h

theorem wpList_wanted {P : Program} {w : World} {ops : Array Oper} {rest : List Oper} {o : Oper} {a : Act} {Q : Exit → Act → World → Prop} (hw : Region.wanted o (yielded ops a.tmps) = true)
    (h : ∀ K : Act → World → Prop, (∀ a w, wpList P ops Q rest a w → K a w) → o.wp P a w K Q) : wpList P ops Q (o :: rest) a w :=
  wpList_step fun K hK => by rw [if_pos hw]; exact h K hK

/-- one append, by what it comes to, guarded or not -/
theorem wpList_append_w {P : Program} {w w' : World} {ops : Array Oper} {rest : List Oper} {o : Oper} {a : Act} {Q : Exit → Act → World → Prop} {t : TypeId} {v u v' : Value} (hw : Region.wanted o (yielded ops a.tmps) = true) (s x : Operand)
    (ho : o.op = .call { callee := .builtin .append, args := #[s, x], argTypes := #[t, t] }) (hs : a.eval s = v) (hx : a.eval x = u)
    (hrun : (Builtin.append_ #[t, t] o.type #[v, u]).run P w = .ok v' w') (h : wpList P ops Q rest (a.put o.dst v') w') : wpList P ops Q (o :: rest) a w := by
  refine wpList_wanted hw fun K hK => ?_
  unfold Oper.wp execOp
  simp only [ho, resolve, invoke, builtin, Sem.run_bind, Sem.run_pure, Result.andThen_ok, List.map_toArray, List.map_cons, List.map_nil, hs, hx, hrun]
  exact hK _ _ h

/-- one load, one store, by what it comes to -/
theorem wpList_load_of {P : Program} {w : World} {ops : Array Oper} {rest : List Oper} {o : Oper} {a : Act} {Q : Exit → Act → World → Prop} {t : TypeId} {v p : Value} (hw : Region.wanted o (yielded ops a.tmps) = true) (x : Operand)
    (ho : o.op = .load t x) (hx : a.eval x = p) (hrun : (Instr.loadAt t p).run P w = .ok v w) (h : wpList P ops Q rest (a.put o.dst v) w) : wpList P ops Q (o :: rest) a w := by
  refine wpList_wanted hw fun K hK => ?_
  unfold Oper.wp execOp
  simp only [ho, hx, hrun, Sem.run_bind, Sem.run_pure, Result.andThen_ok]
  exact hK _ _ h

theorem wpList_store_of {P : Program} {w w' : World} {ops : Array Oper} {rest : List Oper} {o : Oper} {a : Act} {Q : Exit → Act → World → Prop} {t : TypeId} {v p : Value} (hgd : o.guard = none) (x y : Operand)
    (ho : o.op = .store t x y) (hx : a.eval x = p) (hy : a.eval y = v) (hrun : (Instr.storeAt t p v).run P w = .ok () w') (h : wpList P ops Q rest (a.put o.dst undef) w') : wpList P ops Q (o :: rest) a w := by
  refine wpList_plain hgd fun K hK => ?_
  have hK' := hK _ w' h
  unfold Oper.wp execOp
  simp only [ho, hx, hy, hrun, Sem.run_bind, Sem.run_pure, Result.andThen_ok]
  simpa [Oper.upon] using hK'

/-- bytes copied from a row into a row, at a place -/
theorem run_copy_at (g o N c : Nat) (t : TypeId) (cur : List Value) (A : Option Addr) (n c2 : Nat) (zs : List Int) (w : World) (ty : TypeId) (hl : zs.length = n) (hr : Rd w A zs) (h0 : 0 < n) (hg : Row w g t cur.toArray) (hn : n ≤ N) (ho : o + n ≤ cur.length) :
    (Builtin.copy_ #[28, 28] ty #[.slice (some ⟨g, o, none⟩) N c, .slice A n c2]).run Tryd.prog w = .ok (goInt n) (w.setRow g (cur.take o ++ bv zs ++ cur.drop (o + n)).toArray) := by
  obtain ⟨i, hi, hz0, hz1, hz2⟩ := info_parts info_u8
  have hsz : (Tryd.prog.info? 5).map (·.size) = some 1 := by rw [hi]; simp [hz1]
  obtain ⟨a, rfl, _⟩ := hr 0 (by omega)
  have h := run_copy_row (P := Tryd.prog) w 28 28 ty 5 g o N c a n c2 cur.toArray t (bv zs) Tryd.underlying28 hsz hg (by rw [bv_length, hl]; exact (Nat.min_eq_left hn).symm)
    (rd_list hr) (by rw [bv_length]; simp; omega) (bv_one zs)
  simpa [bv_length, hl] using h

theorem Row.setRow {w : World} {g : Nat} {t : TypeId} {cs : Array Value} (h : Row w g t cs) (c' : Array Value) : Row (w.setRow g c') g t c' := setRow_heap w g cs c' t _ h

theorem row_setRow_far {w : World} {g k : Nat} {t : TypeId} {cs : Array Value} (h : Row w g t cs) (c' : Array Value) (hne : g ≠ k) : Row (w.setRow k c') g t cs := by
  unfold Row at h ⊢
  unfold World.setRow
  rw [Array.getElem?_modify, if_neg (fun e => hne e.symm)]
  exact h

theorem below_setRow {B : Nat} {a w : World} (h : Below B a w) (k : Nat) (c' : Array Value) (hk : B ≤ k) : Below B a (w.setRow k c') := by
  refine h.trans ⟨rfl, rfl, rfl, by simp [World.setRow], fun i hi => ?_⟩
  unfold World.setRow
  rw [Array.getElem?_modify, if_neg (by omega)]

theorem still_row {w : World} {g : Nat} {t : TypeId} {cs : Array Value} (h : Row w g t cs) : Row w.drew g t cs := h

theorem still_below {B : Nat} {a w : World} (h : Below B a w) : Below B a w.drew := ⟨h.os, h.tape, h.output, h.size, h.block⟩

theorem bv_set (zs : List Int) (i : Nat) (z : Int) : (bv zs).set i (.int .u8 z) = bv (zs.set i z) := by simp [bv, List.map_set]

theorem load_row {P : Program} {w : World} {g : Nat} {t ty : TypeId} {cs : Array Value} {d : TypeDesc} (h : Row w g t cs) (hu : P.underlying ty = some d) (hd : (match d with | .struct _ | .array _ _ => true | _ => false) = true) (hi : (P.info? ty).map (·.size) = some cs.size) :
    (Instr.loadAt ty (.pointer (some ⟨g, 0, none⟩))).run P w = .ok (.agg cs) w := by
  simp only [Instr.loadAt, Instr.sureAddr, Sem.run_bind, Sem.run_pure, Result.andThen]
  exact run_loadVar_row _ _ _ _ _ (0, 0) _ h hu hd hi

/-- cells of a row from a place on, as one value -/
theorem load_part {P : Program} {w : World} {g o : Nat} {t ty : TypeId} {l cs : List Value} {d : TypeDesc} (h : Row w g t l.toArray) (hc : ∀ j v, cs[j]? = some v → l[o + j]? = some v) (hu : P.underlying ty = some d)
    (hd : (match d with | .struct _ | .array _ _ => true | _ => false) = true) (hi : (P.info? ty).map (·.size) = some cs.length) :
    (Instr.loadAt ty (.pointer (some ⟨g, o, none⟩))).run P w = .ok (.agg cs.toArray) w := by
  simp only [Instr.loadAt, Instr.sureAddr, Sem.run_bind, Sem.run_pure, Result.andThen]
  have hl : (loadCells ⟨g, o, none⟩ cs.length).run P w = .ok cs.toArray w :=
    run_loadCells_list (P := P) w ⟨g, o, none⟩ cs (fun j v hv => by
      have hadd : (⟨g, o, none⟩ : Addr).add j = ⟨g, o + j, none⟩ := by unfold Addr.add; split <;> simp_all
      rw [hadd, h.cell]
      simpa using hc j v hv)
  cases hq : P.info? ty with
  | none => simp [hq] at hi
  | some i =>
    have hs : i.size = cs.length := by simpa [hq] using hi
    have hagg : (isAgg ty).run P w = .ok true w := by
      unfold isAgg
      rw [Sem.run_bind, run_underlying hu w]
      cases d <;> simp_all
    simp [loadVar, Sem.run_bind, hagg, sizeOf, typeInfo, hq, hs, hl]

/-- append to a slice that has no room: bytes of the call's own; all that was there stays -/
theorem run_append_full (w : World) (ty : TypeId) (A : Option Addr) (n : Nat) (u : Value) (xs zs : List Int) (hl : xs.length = n) (hr : Rd w A xs) (hA : A ≠ none) (hu : Slc w u zs) (hz : 0 < zs.length) (hn : n + zs.length ≤ 16777216) :
    ∃ v' w', (Builtin.append_ #[28, 28] ty #[.slice A n n, u]).run Tryd.prog w = .ok v' w' ∧ Own w' w.heap.size v' (xs ++ zs) ∧ Below w.heap.size w w' := by
  obtain ⟨i, hi, hz0, hz1, hz2⟩ := info_parts info_u8
  rcases hu with ⟨rfl, rfl⟩ | ⟨a, c, rfl, hr2, _⟩
  · simp at hz
  · cases A with
    | none => exact absurd rfl hA
    | some b =>
      obtain ⟨v', w', h1, h2, h3⟩ := run_append_arg_grows (P := Tryd.prog) w 28 ty 5 i (.int .u8 0) 1 1 Tryd.underlying28 hi hz0 hz1 hz2 rfl (by omega) b n n (bv xs) (by simp [bv, hl]) (rd_list hr)
        a zs.length c (bv zs) (by simp [bv]) (rd_list hr2) (by omega) (by unfold maxLen; omega) (by omega)
      refine ⟨v', w', h1, ?_, (Below.refl _ _).grown h3 (Nat.le_refl _) (fun k e => by cases e)⟩
      unfold Own
      rw [List.length_append, hl]
      simpa [bv] using h2

/-- one append as one step of a region that draws -/
theorem wp_append_of {P : Program} {o : Oper} {a : Act} {w w' : World} {K : Act → World → Prop} {Q : Exit → Act → World → Prop} {t : TypeId} {v u r : Value} (s x : Operand)
    (ho : o.op = .call { callee := .builtin .append, args := #[s, x], argTypes := #[t, t] }) (hs : a.eval s = v) (hx : a.eval x = u)
    (hrun : (Builtin.append_ #[t, t] o.type #[v, u]).run P w = .ok r w') (h : K (a.put o.dst r) w') : Oper.wp P o a w K Q := by
  unfold Oper.wp execOp
  simp only [ho, resolve, invoke, builtin, Sem.run_bind, Sem.run_pure, Result.andThen_ok, List.map_toArray, List.map_cons, List.map_nil, hs, hx, hrun]
  exact h

theorem zeros_bv (k : Nat) : (zeros k).toList = bv (List.replicate k 0) := by rw [zeros_list]; simp [bv]

/-- a row of one's own that is not nil, as its cells -/
theorem own_row {w : World} {base : Nat} {v : Value} {xs : List Int} (h : Own w base v xs) (hx : xs ≠ []) : ∃ g cap rest, v = .slice (some ⟨g, 0, none⟩) xs.length cap ∧ base ≤ g ∧ Row w g 5 (bv xs ++ rest).toArray ∧ xs.length ≤ cap := by
  unfold Own at h
  rcases h.2 with ⟨rfl, h0⟩ | ⟨g, cap, cur, rfl, hb, hg, hc, _, _, ht⟩
  · exact absurd (List.eq_nil_of_length_eq_zero h0) hx
  · refine ⟨g, cap, cur.toList.drop xs.length, rfl, hb, ?_, hc⟩
    have e : (bv xs ++ cur.toList.drop xs.length).toArray = cur := by
      rw [← ht, Nat.mul_one, List.take_append_drop]
    rw [e]
    exact hg

theorem row_part {w : World} {g : Nat} {t : TypeId} {xs : List Int} {rest : List Value} (h : Row w g t (bv xs ++ rest).toArray) : Rd w (some ⟨g, 0, none⟩) xs :=
  rd_row h (fun j hj => by rw [Nat.zero_add, List.getElem?_append_left (by rw [bv_length]; exact hj)]; exact bv_get xs j hj)

theorem part_cell {w : World} {g : Nat} {t : TypeId} {xs : List Int} {rest : List Value} (h : Row w g t (bv xs ++ rest).toArray) (i : Nat) (hi : i < xs.length) : w.cell? ⟨g, i, none⟩ = some (.int .u8 (xs.getD i 0)) := by
  rw [h.cell, List.getElem?_toArray, List.getElem?_append_left (by rw [bv_length]; exact hi)]
  exact bv_get xs i hi

theorem part_set {w : World} {g : Nat} {t : TypeId} {xs : List Int} {rest : List Value} (h : Row w g t (bv xs ++ rest).toArray) (i : Nat) (hi : i < xs.length) (z : Int) : Row (w.setCell ⟨g, i, none⟩ (.int .u8 z)) g t (bv (xs.set i z) ++ rest).toArray := by
  have h' := h.set i (.int .u8 z)
  rw [List.setIfInBounds_toArray, List.set_append_left _ _ (by rw [bv_length]; exact hi), bv_set] at h'
  exact h'

theorem byt_set {xs : List Int} {i : Nat} {z : Int} (h : Byt xs) (hz : 0 ≤ z ∧ z ≤ 255) : Byt (xs.set i z) := fun y hy => by
  rcases List.mem_or_eq_of_mem_set hy with h1 | rfl
  · exact h y h1
  · exact hz

/-- two rows of one's own in blocks of their own -/
def Sep (v u : Value) : Prop := ∀ k, v.ownBlock = some k → u.ownBlock ≠ some k

/-- one more append to the first of them -/
theorem own_two (w : World) (base : Nat) (ty : TypeId) (v u x : Value) (xs ys zs : List Int) (hv : Own w base v xs) (hu : Own w base u ys) (hs : Sep v u) (hx : Slc w x zs) (hn : xs.length + zs.length ≤ 16777216) (hbase : base ≤ w.heap.size) (W : World) (hb : Below base W w) :
    ∃ v' w', (Builtin.append_ #[28, 28] ty #[v, x]).run Tryd.prog w = .ok v' w' ∧ Own w' base v' (xs ++ zs) ∧ Own w' base u ys ∧ Sep v' u ∧ Below base W w' ∧ w.heap.size ≤ w'.heap.size := by
  obtain ⟨v', w', h1, h2, h3, h4⟩ := run_append_slc w base ty v x xs zs hv hx hn hbase
  have hut : u.ownBlock = none ∨ u.ownBlock ≠ v.ownBlock := by
    cases h : u.ownBlock with
    | none => exact .inl rfl
    | some k => exact .inr (fun e => hs k e.symm h)
  refine ⟨v', w', h1, h2, World.ownsRow.kept hu h3 hut, ?_, own_below hv h3 hb hbase, h3.size⟩
  intro k hk
  rcases h4 with h4 | h4
  · rw [h4] at hk
    exact hs k hk
  · intro e
    have := World.ownsRow.lt hu k e
    rw [h4] at hk
    injection hk with hk
    omega

theorem Sep.symm {v u : Value} (h : Sep v u) : Sep u v := fun k h1 h2 => h k h2 h1

theorem own_new {w : World} {base : Nat} {v : Value} {xs : List Int} (h : Own w base v xs) (o : Obj) : Own (w.alloc o) base v xs := h.keep (below_new w o)

end Go.Proofs.YthkiamkhignchaaDoor
