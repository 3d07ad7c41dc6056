/-
  Arguments that are packets, places of chains, bytes, opened; a book of lists beside blocks that are known whole.
  Conditions: none.
-/
import Derived.Test.YthkiamkhignchaaDoorPktP
import Derived.Test.YthkiamkhignchaaDoorOpenG
import Derived.Test.YthkiamkhignchaaDoorOpen
import Derived.Test.YthkiamkhignchaaDoorBookC
namespace Go.Proofs.YthkiamkhignchaaDoor.Hd
set_option maxRecDepth 100000
open Go.ChangeShapes Go.WideShapes Go.ChangeAt Go.RowKit

theorem u16_of {n : Int} (h : (Lit.int .u16 n).wf = true) : 0 ≤ n ∧ n < 65536 := by
  have : 0 ≤ n ∧ n ≤ 65535 := by simpa [Lit.wf, IntKind.min, IntKind.max, IntKind.signed, IntKind.bits] using h
  omega
theorem u32_of {n : Int} (h : (Lit.int .u32 n).wf = true) : 0 ≤ n ∧ n < 4294967296 := by
  have : 0 ≤ n ∧ n ≤ 4294967295 := by simpa [Lit.wf, IntKind.min, IntKind.max, IntKind.signed, IntKind.bits] using h
  omega
theorem slc_nums {W : World} {A : Option Addr} {c : Nat} {zs : List Int} (h1 : zs.length ≤ c) (h2 : A = none → c = 0) (h3 : Rk .u8 W A zs) : Slc W (.slice A zs.length c) zs := by
  cases A with
  | none =>
    have := h2 rfl
    subst this
    have e : zs = [] := List.eq_nil_of_length_eq_zero (by omega)
    subst e
    exact .inl ⟨rfl, rfl⟩
  | some a => exact .inr ⟨a, c, rfl, h3, h1⟩
theorem opens_addr {W : World} {cs : List Value} (h : Opens W 23 cs) : ∃ d, cs = bv d ∧ d.length = 16 ∧ Byt d := by
  obtain ⟨zs, e, hl, hz⟩ := h.ints Tryd.underlying23 Tryd.underlying5 cellsByte (by kernel_rfl)
  exact ⟨zs, e, hl, fun z h => u8_of (hz z h)⟩
theorem opens_bytes {W : World} {cs : List Value} (h : Opens W 28 cs) : ∃ A n c zs, cs = [.slice A n c] ∧ Slc W (.slice A n c) zs ∧ zs.length = n ∧ Byt zs := by
  obtain ⟨A, c, zs, e, h1, _, _, h4, h5, h6⟩ := h.nums Tryd.underlying28 Tryd.underlying5 cellsByte
  exact ⟨A, zs.length, c, zs, e, slc_nums h1 h4 h5, rfl, fun z h => u8_of (h6 z h)⟩
theorem open_bytes {W : World} {v : Value} {r : Reach} {b0 : Nat} (hv : Value.okWide Tryd.prog W r b0 28 v) (h : Opens W 28 v.cells.toList) : ∃ A n c zs, v = .slice A n c ∧ Slc W (.slice A n c) zs ∧ zs.length = n ∧ Byt zs := by
  obtain ⟨A, n, c, zs, e, hs, hl, hy⟩ := opens_bytes h
  obtain ⟨A', n', c', rfl⟩ := okWide_slice Tryd.underlying28 hv
  have e' : Value.slice A' n' c' = .slice A n c := by simpa [Value.cells] using e
  exact ⟨A, n, c, zs, e', hs, hl, hy⟩
/-- a part that was handed in -/
theorem opens_frag {W : World} {cs : List Value} (h : Opens W 27 cs) : ∃ f : Fg, cs = fgc f ∧ (0 ≤ f.off ∧ f.off < 65536) ∧ (0 ≤ f.id ∧ f.id < 4294967296) := by
  obtain ⟨hl, hf⟩ := h.struct Tryd.underlying27
  rw [show Tryd.prog.cellsOf 27 = 4 by kernel_rfl] at hl
  have h0 : Opens W 4 (List.take (Tryd.prog.cellsOf 4) (List.drop 0 cs)) := hf 0 _ rfl
  have h1 : Opens W 24 (List.take (Tryd.prog.cellsOf 24) (List.drop 1 cs)) := hf 1 _ rfl
  have h2 : Opens W 25 (List.take (Tryd.prog.cellsOf 25) (List.drop 2 cs)) := hf 2 _ rfl
  have h3 : Opens W 4 (List.take (Tryd.prog.cellsOf 4) (List.drop 3 cs)) := hf 3 _ rfl
  rw [show Tryd.prog.cellsOf 4 = 1 by kernel_rfl] at h0 h3
  rw [show Tryd.prog.cellsOf 24 = 1 by kernel_rfl] at h1
  rw [show Tryd.prog.cellsOf 25 = 1 by kernel_rfl] at h2
  obtain ⟨b0, e0⟩ := h0.bool Tryd.underlying4
  obtain ⟨n1, e1, w1⟩ := h1.int Tryd.underlying24
  obtain ⟨n2, e2, w2⟩ := h2.int Tryd.underlying25
  obtain ⟨b3, e3⟩ := h3.bool Tryd.underlying4
  refine ⟨{ is := b0, id := n1, off := n2, more := b3 }, ?_, u16_of w2, u32_of w1⟩
  match cs, hl with
  | [c0, c1, c2, c3], _ =>
    simp at e0 e1 e2 e3
    simp [fgc, e0, e1, e2, e3]
/-- what a packet that was handed in is -/
structure FitsP (W : World) (k : Pk) (A : Option Addr) (n c : Nat) (zs : List Int) : Prop where
  m : Ends k
  v : Holds k
  slc : Slc W (.slice A n c) zs
  len : zs.length = n
  byt : Byt zs
  bs : Byt k.s
  bd : Byt k.d
theorem open_packet {W : World} {v : Value} {r : Reach} {b0 : Nat} (hv : Value.okWide Tryd.prog W r b0 30 v) (h : Opens W 30 v.cells.toList) : ∃ k A n c zs, v = pv k (.slice A n c) ∧ FitsP W k A n c zs := by
  obtain ⟨ca, rfl, _⟩ := okWide_struct Tryd.underlying30 hv
  obtain ⟨cs, hcs⟩ : ∃ cs, ca.toList = cs := ⟨_, rfl⟩
  replace h : Opens W 30 cs := by rw [← hcs]; exact h
  obtain ⟨hl, hf⟩ := h.struct Tryd.underlying30
  rw [show Tryd.prog.cellsOf 30 = 40 by kernel_rfl] at hl
  have h0 : Opens W 23 (List.take (Tryd.prog.cellsOf 23) (List.drop 0 cs)) := hf 0 _ rfl
  have h1 : Opens W 23 (List.take (Tryd.prog.cellsOf 23) (List.drop 16 cs)) := hf 1 _ rfl
  have h2 : Opens W 5 (List.take (Tryd.prog.cellsOf 5) (List.drop 32 cs)) := hf 2 _ rfl
  have h3 : Opens W 4 (List.take (Tryd.prog.cellsOf 4) (List.drop 33 cs)) := hf 3 _ rfl
  have h4 : Opens W 27 (List.take (Tryd.prog.cellsOf 27) (List.drop 34 cs)) := hf 4 _ rfl
  have h5 : Opens W 5 (List.take (Tryd.prog.cellsOf 5) (List.drop 38 cs)) := hf 5 _ rfl
  have h6 : Opens W 28 (List.take (Tryd.prog.cellsOf 28) (List.drop 39 cs)) := hf 6 _ rfl
  rw [show Tryd.prog.cellsOf 23 = 16 by kernel_rfl] at h0 h1
  rw [show Tryd.prog.cellsOf 5 = 1 by kernel_rfl] at h2 h5
  rw [show Tryd.prog.cellsOf 4 = 1 by kernel_rfl] at h3
  rw [show Tryd.prog.cellsOf 27 = 4 by kernel_rfl] at h4
  rw [show Tryd.prog.cellsOf 28 = 1 by kernel_rfl] at h6
  obtain ⟨s, e0, l0, y0⟩ := opens_addr h0
  obtain ⟨d, e1, l1, y1⟩ := opens_addr h1
  obtain ⟨hops, e2, w2⟩ := h2.int Tryd.underlying5
  obtain ⟨al, e3⟩ := h3.bool Tryd.underlying4
  obtain ⟨f, e4, bo, bi⟩ := opens_frag h4
  obtain ⟨nx, e5, w5⟩ := h5.int Tryd.underlying5
  obtain ⟨A, n, c, zs, e6, hs, hn, y6⟩ := opens_bytes h6
  refine ⟨⟨s, d, hops, al, f, nx⟩, A, n, c, zs, ?_, ⟨l0, l1⟩, ⟨u8_of w2, u8_of w5, bo, bi⟩, hs, hn, y6, y0, y1⟩
  have a6 : (cs.drop 39).take 1 = cs.drop 39 := List.take_of_length_le (by simp; omega)
  have step : ∀ (i j : Nat), (cs.drop i).take j ++ cs.drop (i + j) = cs.drop i := fun i j => by
    have := List.take_append_drop j (cs.drop i)
    rwa [List.drop_drop] at this
  have e : cs = cs.take 16 ++ ((cs.drop 16).take 16 ++ ((cs.drop 32).take 1 ++ ((cs.drop 33).take 1 ++ ((cs.drop 34).take 4 ++ ((cs.drop 38).take 1 ++ (cs.drop 39).take 1))))) := by
    rw [a6, step 38 1, step 34 4, step 33 1, step 32 1, step 16 16, List.take_append_drop]
  rw [List.drop_zero] at e0
  have e' : ca.toList = pc ⟨s, d, hops, al, f, nx⟩ (.slice A n c) := by
    rw [hcs, e, e0, e1, e2, e3, e4, e5, e6]
    rfl
  show Value.agg ca = .agg (pc _ _).toArray
  rw [← e']
end Go.Proofs.YthkiamkhignchaaDoor.Hd
