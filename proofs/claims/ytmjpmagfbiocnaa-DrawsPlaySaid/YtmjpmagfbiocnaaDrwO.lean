/-
  A list of acts, opened: each one's kind, words and bound.
  Conditions: none.
-/
import Derived.Test.YtmjpmagfbiocnaaOpenG
import Derived.Test.YtmjpmagfbiocnaaMemBW
namespace Go.Proofs.Ytmjpmagfbiocnaa.W32
open Go.RowKit

/-- one act: its kind, where its words lie and what room they have, the words, its bound -/
structure Deed where
  kd : Int
  A : Option Addr
  c : Nat
  zs : List Int
  n : Int

instance : Inhabited Deed := ⟨⟨0, none, 0, [], 0⟩⟩

theorem off_add (a : Addr) (n : Nat) : (a.add n).off = a.off + n := by
  unfold Addr.add
  split
  · subst_vars
    rfl
  · rfl
theorem add_field (a : Addr) (n k : Nat) (hk : 0 < k) : a.add (n + k) = ⟨(a.add n).block, (a.add n).off + k, none⟩ := by
  rw [block_add, off_add]
  unfold Addr.add
  rw [if_neg (by omega), Nat.add_assoc]

/-- act i of the list at a -/
structure Deed.At (x : Deed) (w : World) (a : Addr) (i : Nat) : Prop where
  c0 : w.cell? (a.add (i * 3)) = some (.int .u8 x.kd)
  c1 : w.cell? ⟨(a.add (i * 3)).block, (a.add (i * 3)).off + 1, none⟩ = some (.slice x.A x.zs.length x.c)
  c2 : w.cell? ⟨(a.add (i * 3)).block, (a.add (i * 3)).off + 2, none⟩ = some (.int .u32 x.n)
  rd : Rd w x.A x.zs
  cap : x.zs.length ≤ x.c
  max : x.zs.length ≤ 35184372087808
  nil : x.A = none → x.c = 0
  byt : Byt x.zs
  kd0 : 0 ≤ x.kd
  kd1 : x.kd ≤ 255
  n0 : 0 ≤ x.n ∧ x.n ≤ 4294967295

theorem Deed.At.keep {x : Deed} {w w' : World} {a : Addr} {i : Nat} (h : x.At w a i) (hb : Below w.heap.size w w') : x.At w' a i :=
  ⟨by rw [hb.cell (block_lt_of_cell h.c0), h.c0], by rw [hb.cell (block_lt_of_cell h.c1), h.c1], by rw [hb.cell (block_lt_of_cell h.c2), h.c2], h.rd.keep hb, h.cap, h.max, h.nil, h.byt, h.kd0, h.kd1, h.n0⟩

theorem Deed.At.slc {x : Deed} {w : World} {a : Addr} {i : Nat} (h : x.At w a i) (k : Nat) (hk : k ≤ x.zs.length) : Slc w (.slice x.A k x.c) (x.zs.take k) := by
  have hn := h.nil
  have hr := h.rd
  have hc := h.cap
  cases hA : x.A with
  | none =>
    rw [hn hA] at hc ⊢
    have h0 : k = 0 := by omega
    subst h0
    exact .inl ⟨rfl, by simp⟩
  | some b =>
    rw [hA] at hr
    have e : k = (x.zs.take k).length := by simp; omega
    refine .inr ⟨b, x.c, by rw [← e], hr.take k, by simp; omega⟩
theorem Deed.At.far {x : Deed} {w : World} {a : Addr} {i : Nat} (h : x.At w a i) {g : Nat} (hg : w.heap.size ≤ g) : x.zs ≠ [] → Off x.A g := fun hz b e => by
  obtain ⟨b', e', hc⟩ := h.rd 0 (by cases hx : x.zs with | nil => exact absurd hx hz | cons _ _ => simp)
  rw [e] at e'
  injection e' with e'
  subst e'
  have := block_lt_of_cell hc
  rw [block_add] at this
  omega

/-- a list of acts -/
def Deeds (w : World) (A : Option Addr) (l : List Deed) : Prop := ∀ i, i < l.length → ∃ a, A = some a ∧ (l.getD i default).At w a i

theorem Deeds.keep {w w' : World} {A : Option Addr} {l : List Deed} (h : Deeds w A l) (hb : Below w.heap.size w w') : Deeds w' A l := fun i hi => by
  obtain ⟨a, e, k⟩ := h i hi
  exact ⟨a, e, k.keep hb⟩

theorem u8_wf {n : Int} (h : (Lit.int .u8 n).wf = true) : 0 ≤ n ∧ n ≤ 255 := by simpa [Lit.wf, IntKind.min, IntKind.max, IntKind.signed, IntKind.bits] using h

theorem cells_act : Try.prog.cellsOf 33 = 3 := by kernel_rfl
theorem cells_u8 : Try.prog.cellsOf 5 = 1 := by kernel_rfl
theorem cells_u32 : Try.prog.cellsOf 31 = 1 := by kernel_rfl
theorem cells_words : Try.prog.cellsOf 28 = 1 := by kernel_rfl

theorem open_act {W : World} {cs : List Value} (h : Opens W 33 cs) :
    ∃ x : Deed, cs = [.int .u8 x.kd, .slice x.A x.zs.length x.c, .int .u32 x.n] ∧ Rd W x.A x.zs ∧ x.zs.length ≤ x.c ∧ x.zs.length ≤ 35184372087808 ∧ (x.A = none → x.c = 0) ∧ Byt x.zs ∧ 0 ≤ x.kd ∧ x.kd ≤ 255 ∧ 0 ≤ x.n ∧ x.n ≤ 4294967295 := by
  obtain ⟨hl, hf⟩ := h.struct Try.underlying33
  rw [cells_act] at hl
  match cs, hl with
  | [v0, v1, v2], _ =>
    have h0 : Opens W 5 (List.take (Try.prog.cellsOf 5) (List.drop 0 [v0, v1, v2])) := hf 0 _ rfl
    have h1 : Opens W 28 (List.take (Try.prog.cellsOf 28) (List.drop 1 [v0, v1, v2])) := hf 1 _ rfl
    have h2 : Opens W 31 (List.take (Try.prog.cellsOf 31) (List.drop 2 [v0, v1, v2])) := hf 2 _ rfl
    rw [cells_u8] at h0
    rw [cells_words] at h1
    rw [cells_u32] at h2
    simp only [List.drop_zero, List.take_succ_cons, List.take_zero, List.drop_succ_cons] at h0 h1 h2
    obtain ⟨kd, e0, w0⟩ := h0.int Try.underlying5
    obtain ⟨A, c, zs, e1, k1, _, k2, k6, k3, k4⟩ := h1.nums Try.underlying28 Try.underlying31 cells_u32
    rw [show Try.prog.bytesOf 31 = 4 by kernel_rfl] at k2
    have k5 : zs.length ≤ 35184372087808 := by unfold reachBytes at k2; omega
    obtain ⟨n, e2, w2⟩ := h2.int Try.underlying31
    injection e0 with e0
    injection e1 with e1
    injection e2 with e2
    subst e0 e1 e2
    have b0 := u8_wf w0
    have b2 := u32_of' w2
    exact ⟨⟨kd, A, c, zs, n⟩, rfl, k3, k1, k5, k6, fun z hz => u32_of' (k4 z hz), b0.1, b0.2, b2.1, b2.2⟩

theorem open_acts {W : World} {cs : List Value} (h : Opens W 22 cs) : ∃ A c l, cs = [.slice A l.length c] ∧ l.length ≤ c ∧ l.length ≤ 140737488351232 ∧ Deeds W A l := by
  obtain ⟨A, n, c, rfl, h1, _, h3, _, hx⟩ := h.slice Try.underlying22
  rw [cells_act] at hx
  rw [show Try.prog.bytesOf 33 = 40 by kernel_rfl] at h3
  have h2 : n ≤ 140737488351232 := by unfold reachBytes at h3; omega
  obtain ⟨f, hf⟩ := Go.Deep.choose_lt (α := Deed) (p := fun i x => ∃ a, A = some a ∧ x.At W a i) (fun i hi => by
    obtain ⟨a, cs', rfl, hlen, hc, ho⟩ := hx i hi
    obtain ⟨x, rfl, k⟩ := open_act ho
    exact ⟨x, a, rfl, ⟨by simpa using hc 0 (by omega), by have := hc 1 (by omega); rw [add_field _ _ 1 (by omega)] at this; simpa using this, by have := hc 2 (by omega); rw [add_field _ _ 2 (by omega)] at this; simpa using this, k.1, k.2.1, k.2.2.1, k.2.2.2.1, k.2.2.2.2.1, k.2.2.2.2.2.1, k.2.2.2.2.2.2.1, k.2.2.2.2.2.2.2⟩⟩)
  refine ⟨A, c, (List.range n).map f, by simp, by simpa using h1, by simpa using h2, ?_⟩
  intro j hj
  simp only [List.length_map, List.length_range] at hj
  obtain ⟨a, e, k⟩ := hf j hj
  exact ⟨a, e, by simpa [List.getD, hj] using k⟩

end Go.Proofs.Ytmjpmagfbiocnaa.W32
