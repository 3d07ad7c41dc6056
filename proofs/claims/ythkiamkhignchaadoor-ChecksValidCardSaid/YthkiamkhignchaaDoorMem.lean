/-
  Words for memory: a block that is known whole; a slice that reads as bytes; bytes of the call's own; new bytes, copies, appends.
  Conditions: at most 16777216 bytes.
-/
import Derived.Test.YthkiamkhignchaaDoorRow
import Derived.Test.YthkiamkhignchaaDoorNum
import Derived.WalkKit
import Derived.KernelRfl
import Derived.Deep.WholeRow
import Derived.Deep.QuietTactic
import Derived.BigQuiet
import Derived.Deep.Draws
import Derived.Maps.AppendAt
namespace Go.Proofs.YthkiamkhignchaaDoor
open Go.RowKit

/-- where a slice stands behind its first k elements: one that has no room left keeps its place -/
def cutA (A : Option Addr) (c k : Nat) : Option Addr := if c = k then A else A.map (·.add k)

/-- a slice at A reads as these bytes -/
def Rd (w : World) (A : Option Addr) (zs : List Int) : Prop := ∀ j, j < zs.length → ∃ a, A = some a ∧ w.cell? (a.add j) = some (.int .u8 (zs.getD j 0))

def Off (A : Option Addr) (g : Nat) : Prop := ∀ a, A = some a → a.block ≠ g

theorem Rd.far {w : World} {A : Option Addr} {zs : List Int} {g : Nat} (h : Rd w A zs) (ho : Off A g) (i : Nat) (u : Value) : Rd (w.setCell ⟨g, i, none⟩ u) A zs := by
  intro j hj
  obtain ⟨a, rfl, hc⟩ := h j hj
  refine ⟨a, rfl, ?_⟩
  have hb := ho a rfl
  rw [← hc]
  exact World.cell?_of_block (Below.heap_setCell w ⟨g, i, none⟩ u _ (by rw [block_add]; exact hb))

theorem Rd.take {w : World} {A : Option Addr} {zs : List Int} (h : Rd w A zs) (k : Nat) : Rd w A (zs.take k) := by
  intro j hj
  obtain ⟨a, e, hc⟩ := h j (by simp at hj; omega)
  refine ⟨a, e, ?_⟩
  have hj' : j < k := by simp at hj; omega
  simpa [List.getD, hj'] using hc

theorem info_u8 : (Tryd.prog.info? 5).map (fun i => (i.zero, i.size, i.bytes)) = some (some (.int .u8 0), 1, 1) := by kernel_rfl

/-- bytes, as cells -/
def bv (zs : List Int) : List Value := zs.map (Value.int .u8)

theorem bv_length (zs : List Int) : (bv zs).length = zs.length := by simp [bv]

theorem bv_get (zs : List Int) (j : Nat) (h : j < zs.length) : (bv zs)[j]? = some (.int .u8 (zs.getD j 0)) := by simp [bv, List.getD, h]

/-- new bytes, all of them noughts -/
def zeros (n : Nat) : Array Value := madeCells #[.int .u8 0] n

theorem zeros_size (n : Nat) : (zeros n).size = n := size_madeCells _ _

theorem zeros_list (n : Nat) : (zeros n).toList = List.replicate n (.int .u8 0) := toList_madeCells_one _ _

theorem run_make_u8 (n : Nat) (hn : n ≤ 16777216) (u : World) : (Instr.makeSlice 28 (.int .i64 n) (.int .i64 n)).run Tryd.prog u = .ok (.slice (some ⟨u.heap.size, 0, none⟩) n n) (u.alloc (.cells (zeros n) 5)) := by
  obtain ⟨i, hi, hz0, hz1, hz2⟩ := info_parts info_u8
  have h := run_make (P := Tryd.prog) u 28 5 i (.int .u8 0) Tryd.underlying28 hi hz0 .i64 .i64 n n (by omega) (by omega) (by rw [hz2]; omega) (by omega)
  simpa [zeros, hz1, Value.cells] using h

theorem rd_list {w : World} {a : Addr} {zs : List Int} (h : Rd w (some a) zs) : ∀ j v, (bv zs)[j]? = some v → w.cell? (a.add j) = some v := by
  intro j v hv
  have hj : j < zs.length := by rw [← bv_length]; exact (List.getElem?_eq_some_iff.1 hv).1
  obtain ⟨a', e, hc⟩ := h j hj
  injection e with e
  subst e
  rw [bv_get zs j hj] at hv
  rw [hc, hv]

theorem bv_one (zs : List Int) : ∀ v ∈ bv zs, v.oneCell' = true := ints_oneCell .u8 zs

theorem Rd.alloc {w : World} {A : Option Addr} {zs : List Int} (h : Rd w A zs) (o : Obj) : Rd (w.alloc o) A zs := by
  intro j hj
  obtain ⟨a, e, hc⟩ := h j hj
  refine ⟨a, e, ?_⟩
  rw [World.cell?_alloc_lt w o _ (block_lt_of_cell hc), hc]

/-- copy of a slice into a block that was made just now -/
theorem run_copy_new (n N c : Nat) (A : Option Addr) (zs : List Int) (cur : Array Value) (w : World) (ty : TypeId) (hl : zs.length = n) (hr : Rd w A zs) (hN : cur.size = N) (hn : n ≤ N) :
    (Builtin.copy_ #[28, 28] ty #[.slice (some ⟨w.heap.size, 0, none⟩) N N, .slice A n c]).run Tryd.prog (w.alloc (.cells cur 5)) = .ok (goInt n) (w.alloc (.cells (bv zs ++ cur.toList.drop n).toArray 5)) := by
  obtain ⟨i, hi, hz0, hz1, hz2⟩ := info_parts info_u8
  have hsz : (Tryd.prog.info? 5).map (·.size) = some 1 := by rw [hi]; simp [hz1]
  by_cases h0 : n = 0
  · subst h0
    have : zs = [] := List.eq_nil_of_length_eq_zero hl
    subst this
    have h := run_copy_none (P := Tryd.prog) (w.alloc (.cells cur 5)) 28 28 ty 5 (some ⟨w.heap.size, 0, none⟩) A N N 0 c Tryd.underlying28 hsz (by simp)
    simpa [bv] using h
  · obtain ⟨a, rfl, _⟩ := hr 0 (by omega)
    have h := run_copy_row (P := Tryd.prog) (w.alloc (.cells cur 5)) 28 28 ty 5 w.heap.size 0 N N a n c cur 5 (bv zs) Tryd.underlying28 hsz (heap_alloc_new w _) (by rw [bv_length, hl]; exact (Nat.min_eq_left hn).symm)
      (rd_list (hr.alloc _)) (by rw [bv_length]; omega) (bv_one zs)
    rw [World.setRow_alloc_new] at h
    simpa [bv_length, hl] using h

theorem Rd.drewN {w : World} {A : Option Addr} {zs : List Int} (h : Rd w A zs) (q : Nat) : Rd (w.drewN q) A zs := h

theorem Rd.gb {w w' : World} {A : Option Addr} {zs : List Int} {r : Option Nat} (h : Rd w A zs) (hg : w.grownBy w' r) (hne : ∀ a, A = some a → some a.block ≠ r) : Rd w' A zs := by
  intro j hj
  obtain ⟨a, e, hc⟩ := h j hj
  exact ⟨a, e, hg.cell hc (by rw [block_add]; exact hne a e)⟩

theorem Rd.drop {w : World} {b o : Nat} {zs : List Int} (h : Rd w (some ⟨b, o, none⟩) zs) (k : Nat) : Rd w (some ⟨b, o + k, none⟩) (zs.drop k) := by
  intro j hj
  obtain ⟨a, e, hc⟩ := h (k + j) (by simp at hj; omega)
  injection e with e
  subst e
  refine ⟨_, rfl, ?_⟩
  rw [show ((⟨b, o + k, none⟩ : Addr).add j) = (⟨b, o, none⟩ : Addr).add (k + j) by simp [Addr.add]; split <;> split <;> simp_all <;> omega]
  simpa [List.getD] using hc

theorem Rd.below {w w' : World} {A : Option Addr} {zs : List Int} {B : Nat} (h : Rd w A zs) (hb : Below B w w') (hB : ∀ a, A = some a → a.block < B) : Rd w' A zs := by
  intro j hj
  obtain ⟨a, e, hc⟩ := h j hj
  exact ⟨a, e, by rw [hb.cell (by rw [block_add]; exact hB a e), hc]⟩

theorem Rd.keep {w w' : World} {A : Option Addr} {zs : List Int} (h : Rd w A zs) (hb : Below w.heap.size w w') : Rd w' A zs := by
  intro j hj
  obtain ⟨a, e, hc⟩ := h j hj
  exact ⟨a, e, by rw [hb.cell (block_lt_of_cell hc), hc]⟩

theorem rd_row {w : World} {b o : Nat} {t : TypeId} {l : List Value} {zs : List Int} (h : Row w b t l.toArray) (hz : ∀ j, j < zs.length → l[o + j]? = some (.int .u8 (zs.getD j 0))) : Rd w (some ⟨b, o, none⟩) zs := by
  intro j hj
  refine ⟨_, rfl, ?_⟩
  rw [show ((⟨b, o, none⟩ : Addr).add j) = ⟨b, o + j, none⟩ by simp [Addr.add], h.cell]
  simpa using hz j hj

theorem rd_lit {w : World} {b : Nat} {t : TypeId} {cs : Array Value} {zs : List Int} (h : Row w b t cs) (hz : cs.toList = bv zs) : Rd w (some ⟨b, 0, none⟩) zs := by
  refine rd_row (l := cs.toList) (by simpa using h) (fun j hj => ?_)
  rw [Nat.zero_add, hz]
  exact bv_get zs j hj

/-- a slice that reads as these bytes; nil is one of none -/
def Slc (w : World) (v : Value) (zs : List Int) : Prop := (v = .slice none 0 0 ∧ zs = []) ∨ ∃ a c, v = .slice (some a) zs.length c ∧ Rd w (some a) zs ∧ zs.length ≤ c

/-- a row of bytes of the call's own, from block number base on -/
def Own (w : World) (base : Nat) (v : Value) (xs : List Int) : Prop := w.ownsRow base 5 1 v xs.length (bv xs)

theorem Slc.keep {w w' : World} {v : Value} {zs : List Int} (h : Slc w v zs) (hb : Below w.heap.size w w') : Slc w' v zs := by
  rcases h with h | ⟨a, c, e, hr, hc⟩
  · exact .inl h
  · exact .inr ⟨a, c, e, hr.keep hb, hc⟩

theorem Slc.slice {w : World} {v : Value} {zs : List Int} (h : Slc w v zs) : ∃ A c, v = .slice A zs.length c ∧ Rd w A zs ∧ zs.length ≤ c := by
  rcases h with ⟨rfl, rfl⟩ | ⟨a, c, e, hr, hc⟩
  · exact ⟨none, 0, rfl, by simp [Rd], by simp⟩
  · exact ⟨some a, c, e, hr, hc⟩

theorem slc_rd {w : World} {C : Option Addr} {m c : Nat} {zs : List Int} (h : Slc w (.slice C m c) zs) : Rd w C zs ∧ zs.length = m := by
  obtain ⟨A, d, e, hr, _⟩ := h.slice
  injection e with e1 e2 e3
  subst e1
  exact ⟨hr, e2.symm⟩

theorem slc_cap {w : World} {C : Option Addr} {m c : Nat} {zs : List Int} (h : Slc w (.slice C m c) zs) : m ≤ c := by
  obtain ⟨A, d, e, _, hc⟩ := h.slice
  injection e with e1 e2 e3
  omega

theorem own_nil (w : World) (base : Nat) : Own w base (.slice none 0 0) [] := World.ownsRow_nil w base _ _

theorem Own.slc {w : World} {base : Nat} {v : Value} {xs : List Int} (h : Own w base v xs) : Slc w v xs := by
  have h' := h
  unfold Own at h
  rcases h.2 with ⟨rfl, h0⟩ | ⟨g, cap, cur, rfl, _, hg, hc, _, _, ht⟩
  · exact .inl ⟨rfl, List.eq_nil_of_length_eq_zero h0⟩
  · refine .inr ⟨_, cap, rfl, ?_, hc⟩
    refine rd_row (l := cur.toList) (t := 5) (by simpa [Row] using hg) (fun j hj => ?_)
    have e := bv_get xs j hj
    rw [← ht, List.getElem?_take, if_pos (by omega)] at e
    simpa using e

theorem Own.keep {w w' : World} {base : Nat} {v : Value} {xs : List Int} (h : Own w base v xs) (hb : Below w.heap.size w w') : Own w' base v xs :=
  World.ownsRow.kept (row := none) h ⟨hb.os, hb.tape, hb.output, hb.size, fun k hk _ => hb.block k hk⟩ (by cases v.ownBlock <;> simp)

theorem Own.gb {w w' : World} {base : Nat} {v : Value} {xs : List Int} {g : Nat} (h : Own w base v xs) (hb : w.grownBy w' (some g)) (hne : v.ownBlock ≠ some g) : Own w' base v xs :=
  World.ownsRow.kept h hb (.inr hne)

theorem run_append_slc (w : World) (base : Nat) (ty : TypeId) (v u : Value) (xs zs : List Int) (hown : Own w base v xs) (hu : Slc w u zs) (hn : xs.length + zs.length ≤ 16777216) (hbase : base ≤ w.heap.size) :
    ∃ v' w', (Builtin.append_ #[28, 28] ty #[v, u]).run Tryd.prog w = .ok v' w' ∧ Own w' base v' (xs ++ zs) ∧ w.grownBy w' v.ownBlock ∧ (v'.ownBlock = v.ownBlock ∨ v'.ownBlock = some w.heap.size) := by
  obtain ⟨i, hi, hz0, hz1, hz2⟩ := info_parts info_u8
  rcases hu with ⟨rfl, rfl⟩ | ⟨a, c, rfl, hr, _⟩
  · exact ⟨v, w, run_append_owned_none w base 28 ty 5 i 1 Tryd.underlying28 hi v xs.length (bv xs) hown, by simpa using hown, World.grownBy.refl w _, .inl rfl⟩
  · obtain ⟨v', w', hrun, h2, h3, _, h5⟩ := run_append_own_at (P := Tryd.prog) w base 28 ty 5 i (.int .u8 0) 1 1 Tryd.underlying28 hi hz0 hz1 hz2 rfl (by omega) v xs.length (bv xs) hown a zs.length c (bv zs)
      (by simp [bv_length]) (rd_list hr) (bv_one zs) (by unfold maxLen; omega) (by omega) hbase
    refine ⟨v', w', hrun, ?_, h3, h5⟩
    unfold Own
    rw [List.length_append]
    simpa [bv] using h2

/-- one append, by what it comes to -/
theorem wpList_append_run {P : Program} {w w' : World} {ops : Array Oper} {rest : List Oper} {o : Oper} {a : Act} {Q : Exit → Act → World → Prop} {t : TypeId} {v u v' : Value} (hgd : o.guard = none) (s x : Operand)
    (ho : o.op = .call { callee := .builtin .append, args := #[s, x], argTypes := #[t, t] }) (hs : a.eval s = v) (hx : a.eval x = u)
    (hrun : (Builtin.append_ #[t, t] o.type #[v, u]).run P w = .ok v' w') (h : wpList P ops Q rest (a.put o.dst v') w') : wpList P ops Q (o :: rest) a w := by
  refine wpList_plain hgd fun K hK => ?_
  unfold Oper.wp execOp
  simp only [ho, resolve, invoke, builtin, Sem.run_bind, Sem.run_pure, Result.andThen_ok, List.map_toArray, List.map_cons, List.map_nil, hs, hx, hrun]
  exact hK _ _ h

theorem own_below {w w' : World} {base : Nat} {v : Value} {xs : List Int} {W : World} (h : Own w base v xs) (hg : w.grownBy w' v.ownBlock) (hb : Below base W w) (hB : base ≤ w.heap.size) : Below base W w' :=
  hb.grown hg hB (fun k hk => (World.ownsRow.lt h k hk).1)

/-- append of one byte that lies in a block that was made just now -/
theorem wpList_byte {ops : Array Oper} {rest : List Oper} {o : Oper} {a : Act} {Q : Exit → Act → World → Prop} (hgd : o.guard = none) (s x : Operand)
    (hop : o.op = .call { callee := .builtin .append, args := #[s, x], argTypes := #[28, 28] }) (w : World) (base : Nat) (v : Value) (z : Int) (xs : List Int)
    (hs : a.eval s = v) (hx : a.eval x = .slice (some ⟨w.heap.size, 0, none⟩) 1 1) (hown : Own w base v xs) (hm : xs.length + 1 ≤ 16777216) (hB : base ≤ w.heap.size)
    (h : ∀ v' w', Own w' base v' (xs ++ [z]) → (w.alloc (.cells #[.int .u8 z] 5)).grownBy w' v.ownBlock → wpList Tryd.prog ops Q rest (a.put o.dst v') w') :
    wpList Tryd.prog ops Q (o :: rest) a (w.alloc (.cells #[.int .u8 z] 5)) := by
  have hr : Row (w.alloc (.cells #[.int .u8 z] 5)) w.heap.size 5 #[.int .u8 z] := row_new rfl
  have hu : Slc (w.alloc (.cells #[.int .u8 z] 5)) (.slice (some ⟨w.heap.size, 0, none⟩) 1 1) [z] := .inr ⟨_, 1, rfl, rd_lit hr rfl, by simp⟩
  obtain ⟨v', w', hrun, h2, h3, _⟩ := run_append_slc (w.alloc (.cells #[.int .u8 z] 5)) base o.type v _ xs [z] (hown.keep (below_new w _)) hu (by simpa using hm) (by simp; omega)
  exact wpList_append_run hgd s x hop hs hx hrun (h v' w' h2 h3)

/-- bytes of the call's own, and nothing that was there has changed -/
def Gives (w : World) (xs : List Int) (e : Ending) (w' : World) : Prop := ∃ A m c, e = .returned (.slice A m c) ∧ m = xs.length ∧ Own w' w.heap.size (.slice A m c) xs ∧ Below w.heap.size w w'

end Go.Proofs.YthkiamkhignchaaDoor
