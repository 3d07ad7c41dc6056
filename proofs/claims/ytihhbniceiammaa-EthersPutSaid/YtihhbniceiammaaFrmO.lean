/-
  Arguments that are frames, and addresses, opened; a book of lists beside blocks that are known whole.
  Conditions: none.
-/
import Derived.Test.YtihhbniceiammaaFrmJ
import Derived.Test.YtihhbniceiammaaFrmR
import Derived.Test.YtihhbniceiammaaFrmL
import Derived.Test.YtihhbniceiammaaOpenG
import Derived.Test.YtihhbniceiammaaOpen
import Derived.Test.YtihhbniceiammaaBookC
namespace Go.Proofs.Ytihhbniceiammaa.Et
open Go.ChangeShapes Go.WideShapes Go.ChangeAt Go.RowKit

theorem u16_of {n : Int} (h : (Lit.int .u16 n).wf = true) : 0 ≤ n ∧ n < 65536 := by
  have : 0 ≤ n ∧ n ≤ 65535 := by simpa [Lit.wf, IntKind.min, IntKind.max, IntKind.signed, IntKind.bits] using h
  omega
theorem slc_nums {W : World} {A : Option Addr} {c : Nat} {zs : List Int} (h1 : zs.length ≤ c) (h2 : A = none → c = 0) (h3 : Rk .u8 W A zs) : Slc W (.slice A zs.length c) zs := by
  cases A with
  | none =>
    have := h2 rfl
    subst this
    have e : zs = [] := List.eq_nil_of_length_eq_zero (by omega)
    subst e
    exact .inl ⟨rfl, rfl⟩
  | some a => exact .inr ⟨a, c, rfl, h3, h1⟩
theorem opens_mac {W : World} {cs : List Value} (h : Opens W 23 cs) : ∃ d, cs = bv d ∧ d.length = 6 ∧ Byt d := by
  obtain ⟨zs, e, hl, hz⟩ := h.ints Try.underlying23 Try.underlying5 cellsByte (by kernel_rfl)
  exact ⟨zs, e, hl, fun z h => u8_of (hz z h)⟩
theorem opens_addr {W : World} {cs : List Value} (h : Opens W 29 cs) : ∃ d, cs = bv d ∧ d.length = 16 ∧ Byt d := by
  obtain ⟨zs, e, hl, hz⟩ := h.ints Try.underlying29 Try.underlying5 cellsByte (by kernel_rfl)
  exact ⟨zs, e, hl, fun z h => u8_of (hz z h)⟩
theorem opens_bytes {W : World} {cs : List Value} (h : Opens W 25 cs) : ∃ A n c zs, cs = [.slice A n c] ∧ Slc W (.slice A n c) zs ∧ zs.length = n ∧ Byt zs := by
  obtain ⟨A, c, zs, e, h1, _, _, h4, h5, h6⟩ := h.nums Try.underlying25 Try.underlying5 cellsByte
  exact ⟨A, zs.length, c, zs, e, slc_nums h1 h4 h5, rfl, fun z h => u8_of (h6 z h)⟩
/-- what a frame that was handed in is -/
structure Fits (W : World) (d s : List Int) (k : Int) (A : Option Addr) (n c : Nat) (zs : List Int) : Prop where
  m : Macs d s
  bd : Byt d
  bs : Byt s
  k : 0 ≤ k ∧ k < 65536
  slc : Slc W (.slice A n c) zs
  len : zs.length = n
  byt : Byt zs
theorem opens_frame {W : World} {cs : List Value} (h : Opens W 27 cs) : ∃ d s k A n c zs, cs = fc d s k (.slice A n c) ∧ Fits W d s k A n c zs := by
  obtain ⟨hl, hf⟩ := h.struct Try.underlying27
  rw [show Try.prog.cellsOf 27 = 14 by kernel_rfl] at hl
  have h0 : Opens W 23 (List.take (Try.prog.cellsOf 23) (List.drop 0 cs)) := hf 0 _ rfl
  have h1 : Opens W 23 (List.take (Try.prog.cellsOf 23) (List.drop 6 cs)) := hf 1 _ rfl
  have h2 : Opens W 24 (List.take (Try.prog.cellsOf 24) (List.drop 12 cs)) := hf 2 _ rfl
  have h3 : Opens W 25 (List.take (Try.prog.cellsOf 25) (List.drop 13 cs)) := hf 3 _ rfl
  rw [show Try.prog.cellsOf 23 = 6 by kernel_rfl] at h0 h1
  rw [show Try.prog.cellsOf 24 = 1 by kernel_rfl] at h2
  rw [show Try.prog.cellsOf 25 = 1 by kernel_rfl] at h3
  obtain ⟨d, e0, l0, y0⟩ := opens_mac h0
  obtain ⟨s, e1, l1, y1⟩ := opens_mac h1
  obtain ⟨k, e2, w2⟩ := h2.int Try.underlying24
  obtain ⟨A, n, c, zs, e3, hs, hn, y3⟩ := opens_bytes h3
  refine ⟨d, s, k, A, n, c, zs, ?_, ⟨l0, l1⟩, y0, y1, u16_of w2, hs, hn, y3⟩
  have e : cs = cs.take 6 ++ ((cs.drop 6).take 6 ++ ((cs.drop 12).take 1 ++ (cs.drop 13).take 1)) := by
    have a3 : (cs.drop 13).take 1 = cs.drop 13 := List.take_of_length_le (by simp; omega)
    have a2 : (cs.drop 12).take 1 ++ cs.drop 13 = cs.drop 12 := by
      have := List.take_append_drop 1 (cs.drop 12)
      rwa [List.drop_drop] at this
    have a1 : (cs.drop 6).take 6 ++ cs.drop 12 = cs.drop 6 := by
      have := List.take_append_drop 6 (cs.drop 6)
      rwa [List.drop_drop] at this
    rw [a3, a2, a1, List.take_append_drop]
  rw [List.drop_zero] at e0
  rw [e, e0, e1, e2, e3]
  rfl

section
variable {W : World}
theorem open_frame {v : Value} {r : Reach} {b0 : Nat} (hv : Value.okWide Try.prog W r b0 27 v) (h : Opens W 27 v.cells.toList) : ∃ d s k A n c zs, v = fv d s k (.slice A n c) ∧ Fits W d s k A n c zs := by
  obtain ⟨cs, rfl, _⟩ := okWide_struct Try.underlying27 hv
  obtain ⟨d, s, k, A, n, c, zs, e, F⟩ := opens_frame h
  refine ⟨d, s, k, A, n, c, zs, ?_, F⟩
  have e' : cs.toList = fc d s k (.slice A n c) := e
  show Value.agg cs = .agg (fc d s k (.slice A n c)).toArray
  rw [← e']
theorem open_addr {v : Value} {r : Reach} {b0 : Nat} (hv : Value.okWide Try.prog W r b0 29 v) (h : Opens W 29 v.cells.toList) : ∃ xs, v = av xs ∧ xs.length = 16 ∧ Byt xs := by
  obtain ⟨cs, rfl, _⟩ := okWide_array2 Try.underlying29 hv
  obtain ⟨d, e, hl, hy⟩ := opens_addr h
  have e' : cs.toList = bv d := e
  refine ⟨d, ?_, hl, hy⟩
  show Value.agg cs = .agg (bv d).toArray
  rw [← e']
end

/-- noting a list leaves the blocks that are known whole -/
theorem _root_.Go.Proofs.Ytihhbniceiammaa.Lay.bf {w0 w w' : World} {L : List Blk} {base : Nat} (h : Lay w0 w L) (hb : BF base w w') (ho : w0.heap.size ≤ base) (ht : ∀ x ∈ L, x.2.1 ≠ 38 ∧ x.2.1 ≠ 55) : Lay w0 w' L :=
  ⟨fun x hx => hb.2 _ _ _ (h.row x hx) (ht x hx).1 (ht x hx).2, h.own, h.nd, h.below.trans (hb.1.mono ho)⟩
theorem _root_.Go.Proofs.Ytihhbniceiammaa.Lay.bfB {w0 w w' : World} {L : List Blk} {base : Nat} (h : Lay w0 w L) (hb : BF base w w') (ho : w0.heap.size ≤ base) (ht : (L.map (·.2.1)).all (fun t => t != 38 && t != 55) = true) : Lay w0 w' L :=
  h.bf hb ho (fun x hx => by
    have := List.all_eq_true.1 ht x.2.1 (List.mem_map.2 ⟨x, hx, rfl⟩)
    simpa using this)

end Go.Proofs.Ytihhbniceiammaa.Et
