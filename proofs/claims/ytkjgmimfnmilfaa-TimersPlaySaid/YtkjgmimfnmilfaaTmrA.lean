/-
  An act on a set, and a list of them, opened: each one's kind, key and time.
  Conditions: none.
-/
import Derived.Test.YtkjgmimfnmilfaaOpenG
import Derived.Test.YtkjgmimfnmilfaaTmrM
namespace Go.Proofs.Ytkjgmimfnmilfaa.Tm5
open Go.RowKit

/-- one act: its kind, and the timer with its time -/
structure Deed where
  kd : Int
  x : Tm
instance : Inhabited Deed := ⟨⟨0, default⟩⟩
def dv (d : Deed) : List Value := [.int .u8 d.kd, .int .u8 d.x.k.kd, .int .u64 d.x.k.id, .int .u64 d.x.t]
structure Deed.ok (d : Deed) : Prop where
  a0 : 0 ≤ d.kd
  a1 : d.kd ≤ 255
  x : d.x.ok

theorem u8_wf {n : Int} (h : (Lit.int .u8 n).wf = true) : 0 ≤ n ∧ n ≤ 255 := by simpa [Lit.wf, IntKind.min, IntKind.max, IntKind.signed, IntKind.bits] using h
theorem u64_wf {n : Int} (h : (Lit.int .u64 n).wf = true) : 0 ≤ n ∧ n ≤ 18446744073709551615 := by simpa [Lit.wf, IntKind.min, IntKind.max, IntKind.signed, IntKind.bits] using h
theorem cells_act : Try.prog.cellsOf 35 = 4 := by kernel_rfl

theorem open_key {W : World} {cs : List Value} (h : Opens W 33 cs) : ∃ k : Tk, cs = [.int .u8 k.kd, .int .u64 k.id] ∧ k.ok := by
  obtain ⟨hl, hf⟩ := h.struct Try.underlying33
  rw [cells_key] at hl
  match cs, hl with
  | [v0, v1], _ =>
    have h0 : Opens W 5 (List.take (Try.prog.cellsOf 5) (List.drop 0 [v0, v1])) := hf 0 _ rfl
    have h1 : Opens W 31 (List.take (Try.prog.cellsOf 31) (List.drop 1 [v0, v1])) := hf 1 _ rfl
    rw [cells_u8] at h0
    rw [cells_u64] at h1
    simp only [List.drop_zero, List.take_succ_cons, List.take_zero, List.drop_succ_cons] at h0 h1
    obtain ⟨a, e0, w0⟩ := h0.int Try.underlying5
    obtain ⟨b, e1, w1⟩ := h1.int Try.underlying31
    injection e0 with e0
    injection e1 with e1
    subst e0 e1
    exact ⟨⟨a, b⟩, rfl, ⟨(u8_wf w0).1, (u8_wf w0).2, (u64_wf w1).1, (u64_wf w1).2⟩⟩
theorem open_act {W : World} {cs : List Value} (h : Opens W 35 cs) : ∃ d : Deed, cs = dv d ∧ d.ok := by
  obtain ⟨hl, hf⟩ := h.struct Try.underlying35
  rw [cells_act] at hl
  match cs, hl with
  | [v0, v1, v2, v3], _ =>
    have h0 : Opens W 5 (List.take (Try.prog.cellsOf 5) (List.drop 0 [v0, v1, v2, v3])) := hf 0 _ rfl
    have h1 : Opens W 33 (List.take (Try.prog.cellsOf 33) (List.drop 1 [v0, v1, v2, v3])) := hf 1 _ rfl
    have h2 : Opens W 31 (List.take (Try.prog.cellsOf 31) (List.drop 3 [v0, v1, v2, v3])) := hf 2 _ rfl
    rw [cells_u8] at h0
    rw [cells_key] at h1
    rw [cells_u64] at h2
    simp only [List.drop_zero, List.take_succ_cons, List.take_zero, List.drop_succ_cons] at h0 h1 h2
    obtain ⟨a, e0, w0⟩ := h0.int Try.underlying5
    obtain ⟨k, e1, w1⟩ := open_key h1
    obtain ⟨b, e2, w2⟩ := h2.int Try.underlying31
    injection e0 with e0
    injection e1 with e1 e1'
    injection e1' with e1'
    injection e2 with e2
    subst e0 e1 e1' e2
    exact ⟨⟨a, k, b⟩, rfl, ⟨(u8_wf w0).1, (u8_wf w0).2, w1, (u64_wf w2).1, (u64_wf w2).2⟩⟩
theorem off_add (a : Addr) (n : Nat) : (a.add n).off = a.off + n := by
  unfold Addr.add
  split
  · subst_vars
    rfl
  · rfl
theorem add_field (a : Addr) (n k : Nat) (hk : 0 < k) : a.add (n + k) = ⟨(a.add n).block, (a.add n).off + k, none⟩ := by
  rw [block_add, off_add]
  unfold Addr.add
  rw [if_neg (by omega), Nat.add_assoc]

/-- act i of the list at a -/
structure Deed.At (d : Deed) (w : World) (a : Addr) (i : Nat) : Prop where
  c0 : w.cell? (a.add (i * 4)) = some (.int .u8 d.kd)
  c1 : w.cell? ⟨(a.add (i * 4)).block, (a.add (i * 4)).off + 1, none⟩ = some (.int .u8 d.x.k.kd)
  c2 : w.cell? ⟨(a.add (i * 4)).block, (a.add (i * 4)).off + 2, none⟩ = some (.int .u64 d.x.k.id)
  c3 : w.cell? ⟨(a.add (i * 4)).block, (a.add (i * 4)).off + 3, none⟩ = some (.int .u64 d.x.t)
  ok : d.ok
theorem Deed.At.keep {x : Deed} {w w' : World} {a : Addr} {i : Nat} (h : x.At w a i) (hb : Below w.heap.size w w') : x.At w' a i :=
  ⟨by rw [hb.cell (block_lt_of_cell h.c0), h.c0], by rw [hb.cell (block_lt_of_cell h.c1), h.c1], by rw [hb.cell (block_lt_of_cell h.c2), h.c2], by rw [hb.cell (block_lt_of_cell h.c3), h.c3], h.ok⟩
/-- a list of acts -/
def Deeds (w : World) (A : Option Addr) (l : List Deed) : Prop := ∀ i, i < l.length → ∃ a, A = some a ∧ (l.getD i default).At w a i
theorem Deeds.keep {w w' : World} {A : Option Addr} {l : List Deed} (h : Deeds w A l) (hb : Below w.heap.size w w') : Deeds w' A l := fun i hi => by
  obtain ⟨a, e, k⟩ := h i hi
  exact ⟨a, e, k.keep hb⟩
theorem open_acts {W : World} {cs : List Value} (h : Opens W 22 cs) : ∃ A c l, cs = [.slice A l.length c] ∧ l.length ≤ c ∧ l.length ≤ 140737488351232 ∧ Deeds W A l := by
  obtain ⟨A, n, c, rfl, h1, _, h3, _, hx⟩ := h.slice Try.underlying22
  rw [cells_act] at hx
  rw [show Try.prog.bytesOf 35 = 32 by kernel_rfl] at h3
  have h2 : n ≤ 140737488351232 := by unfold reachBytes at h3; omega
  obtain ⟨f, hf⟩ := Go.Deep.choose_lt (α := Deed) (p := fun i x => ∃ a, A = some a ∧ x.At W a i) (fun i hi => by
    obtain ⟨a, cs', rfl, hlen, hc, ho⟩ := hx i hi
    obtain ⟨x, rfl, k⟩ := open_act ho
    exact ⟨x, a, rfl, ⟨by simpa [dv] using hc 0 (by omega), by have := hc 1 (by omega); rw [add_field _ _ 1 (by omega)] at this; simpa [dv] using this, by have := hc 2 (by omega); rw [add_field _ _ 2 (by omega)] at this; simpa [dv] using this, by have := hc 3 (by omega); rw [add_field _ _ 3 (by omega)] at this; simpa [dv] using this, k⟩⟩)
  refine ⟨A, c, (List.range n).map f, by simp, by simpa using h1, by simpa using h2, ?_⟩
  intro j hj
  simp only [List.length_map, List.length_range] at hj
  obtain ⟨a, e, k⟩ := hf j hj
  exact ⟨a, e, by simpa [List.getD, hj] using k⟩

end Go.Proofs.Ytkjgmimfnmilfaa.Tm5
