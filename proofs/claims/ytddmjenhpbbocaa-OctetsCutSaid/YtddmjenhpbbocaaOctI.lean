/-
  append of bytes onto a row of the call's own, whatever slice stands behind it, nil too; and Put with its width as an int.
  Conditions: at most 16777216 bytes in all.
-/
import Derived.Test.YtddmjenhpbbocaaOctH
import Derived.Maps.AppendAt
namespace Go.Proofs.Ytddmjenhpbbocaa
open Go.RowKit

/-- a slice that reads as these bytes; nil is one of none -/
def Slc (w : World) (v : Value) (zs : List Int) : Prop := (v = .slice none 0 0 ∧ zs = []) ∨ ∃ a c, v = .slice (some a) zs.length c ∧ Rd w (some a) zs ∧ zs.length ≤ c
/-- a row of bytes of the call's own, from block number base on -/
def Own (w : World) (base : Nat) (v : Value) (xs : List Int) : Prop := w.ownsRow base 5 1 v xs.length (bv xs)

theorem Slc.keep {w w' : World} {v : Value} {zs : List Int} (h : Slc w v zs) (hb : Below w.heap.size w w') : Slc w' v zs := by
  rcases h with h | ⟨a, c, e, hr, hc⟩
  · exact .inl h
  · exact .inr ⟨a, c, e, hr.keep hb, hc⟩
theorem Slc.slice {w : World} {v : Value} {zs : List Int} (h : Slc w v zs) : ∃ A c, v = .slice A zs.length c ∧ Rd w A zs ∧ zs.length ≤ c := by
  rcases h with ⟨rfl, rfl⟩ | ⟨a, c, e, hr, hc⟩
  · exact ⟨none, 0, rfl, by simp [Rd], by simp⟩
  · exact ⟨some a, c, e, hr, hc⟩
theorem slc_rd {w : World} {C : Option Addr} {m c : Nat} {zs : List Int} (h : Slc w (.slice C m c) zs) : Rd w C zs ∧ zs.length = m := by
  obtain ⟨A, d, e, hr, _⟩ := h.slice
  injection e with e1 e2 e3
  subst e1
  exact ⟨hr, e2.symm⟩

theorem slc_cap {w : World} {C : Option Addr} {m c : Nat} {zs : List Int} (h : Slc w (.slice C m c) zs) : m ≤ c := by
  obtain ⟨A, d, e, _, hc⟩ := h.slice
  injection e with e1 e2 e3
  omega
theorem own_nil (w : World) (base : Nat) : Own w base (.slice none 0 0) [] := World.ownsRow_nil w base _ _
theorem Own.slc {w : World} {base : Nat} {v : Value} {xs : List Int} (h : Own w base v xs) : Slc w v xs := by
  have h' := h
  unfold Own at h
  rcases h.2 with ⟨rfl, h0⟩ | ⟨g, cap, cur, rfl, _, hg, hc, _, _, ht⟩
  · exact .inl ⟨rfl, List.eq_nil_of_length_eq_zero h0⟩
  · refine .inr ⟨_, cap, rfl, ?_, hc⟩
    refine rd_row (l := cur.toList) (t := 5) (by simpa [Row] using hg) (fun j hj => ?_)
    have e := bv_get xs j hj
    rw [← ht, List.getElem?_take, if_pos (by omega)] at e
    simpa using e
theorem Own.keep {w w' : World} {base : Nat} {v : Value} {xs : List Int} (h : Own w base v xs) (hb : Below w.heap.size w w') : Own w' base v xs :=
  World.ownsRow.kept (row := none) h ⟨hb.os, hb.tape, hb.output, hb.size, fun k hk _ => hb.block k hk⟩ (by cases v.ownBlock <;> simp)
theorem Own.gb {w w' : World} {base : Nat} {v : Value} {xs : List Int} {g : Nat} (h : Own w base v xs) (hb : w.grownBy w' (some g)) (hne : v.ownBlock ≠ some g) : Own w' base v xs :=
  World.ownsRow.kept h hb (.inr hne)

theorem run_append_slc (w : World) (base : Nat) (ty : TypeId) (v u : Value) (xs zs : List Int) (hown : Own w base v xs) (hu : Slc w u zs) (hn : xs.length + zs.length ≤ 16777216) (hbase : base ≤ w.heap.size) :
    ∃ v' w', (Builtin.append_ #[22, 22] ty #[v, u]).run Try.prog w = .ok v' w' ∧ Own w' base v' (xs ++ zs) ∧ w.grownBy w' v.ownBlock ∧ (v'.ownBlock = v.ownBlock ∨ v'.ownBlock = some w.heap.size) := by
  obtain ⟨i, hi, hz0, hz1, hz2⟩ := info_parts info_u8
  rcases hu with ⟨rfl, rfl⟩ | ⟨a, c, rfl, hr, _⟩
  · exact ⟨v, w, run_append_owned_none w base 22 ty 5 i 1 Try.underlying22 hi v xs.length (bv xs) hown, by simpa using hown, World.grownBy.refl w _, .inl rfl⟩
  · obtain ⟨v', w', hrun, h2, h3, _, h5⟩ := run_append_own_at (P := Try.prog) w base 22 ty 5 i (.int .u8 0) 1 1 Try.underlying22 hi hz0 hz1 hz2 rfl (by omega) v xs.length (bv xs) hown a zs.length c (bv zs)
      (by simp [bv_length]) (rd_list hr) (bv_one zs) (by unfold maxLen; omega) (by omega) hbase
    refine ⟨v', w', hrun, ?_, h3, h5⟩
    unfold Own
    rw [List.length_append]
    simpa [bv] using h2

/-- one append, by what it comes to -/
theorem wpList_append_run {P : Program} {w w' : World} {ops : Array Oper} {rest : List Oper} {o : Oper} {a : Act} {Q : Exit → Act → World → Prop} {t : TypeId} {v u v' : Value} (hgd : o.guard = none) (s x : Operand)
    (ho : o.op = .call { callee := .builtin .append, args := #[s, x], argTypes := #[t, t] }) (hs : a.eval s = v) (hx : a.eval x = u)
    (hrun : (Builtin.append_ #[t, t] o.type #[v, u]).run P w = .ok v' w') (h : wpList P ops Q rest (a.put o.dst v') w') : wpList P ops Q (o :: rest) a w := by
  refine wpList_plain hgd fun K hK => ?_
  unfold Oper.wp execOp
  simp only [ho, resolve, invoke, builtin, Sem.run_bind, Sem.run_pure, Result.andThen_ok, List.map_toArray, List.map_cons, List.map_nil, hs, hx, hrun]
  exact hK _ _ h

theorem own_below {w w' : World} {base : Nat} {v : Value} {xs : List Int} {W : World} (h : Own w base v xs) (hg : w.grownBy w' v.ownBlock) (hb : Below base W w) (hB : base ≤ w.heap.size) : Below base W w' :=
  hb.grown hg hB (fun k hk => (World.ownsRow.lt h k hk).1)

theorem put_int (A : Option Addr) (m c : Nat) (zs : List Int) (n kI : Int) (k : Nat) (w : World) (hl : zs.length = m) (hm : m ≤ 16000000) (hr : Rd w A zs) (hk : kI = k) (h1 : 1 ≤ k) (h8 : k ≤ 8) :
    Calls Try.prog 21 #[.slice A m c, .int .u64 n, .int .i64 kI] w fun e w' => e = .returned (.slice (some ⟨w.heap.size, 0, none⟩) (m + k) (m + k)) ∧
      w.alloc (.cells (bv (zs ++ be n k)).toArray 5) = w' := by
  subst hk
  exact put_yes A m c zs n k w hl hm hr h1 h8

end Go.Proofs.Ytddmjenhpbbocaa
