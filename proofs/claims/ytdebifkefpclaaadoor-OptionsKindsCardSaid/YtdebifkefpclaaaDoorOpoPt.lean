/-
  Parts of which options are made: by value, opened; how long they are.
  Conditions: none.
-/
import Derived.Test.YtdebifkefpclaaaDoorOpoK
import Derived.Test.YtdebifkefpclaaaDoorOpoU
namespace Go.Proofs.YtdebifkefpclaaaDoor.Oz
set_option maxRecDepth 100000
open Go.RowKit Ops

/-- parts, by value -/
structure Pt where
  k : Int
  mac : List Int
  info : PI
  bA : Option Addr
  bn : Nat
  bc : Nat
  n : Int
  non : List Int
  sA : Option Addr
  sn : Nat
  sc : Nat
  dA : Option Addr
  dn : Nat
  dc : Nat
abbrev ptc (p : Pt) : List Value := [Value.int .u8 p.k] ++ (bv p.mac ++ (pic p.info ++ ([Value.slice p.bA p.bn p.bc] ++ ([Value.int .u32 p.n] ++ (bv p.non ++ ([Value.slice p.sA p.sn p.sc] ++ [Value.slice p.dA p.dn p.dc]))))))
structure Has (W : World) (p : Pt) (bs0 : List Int) (az : List (List Int)) (ss : List Str) : Prop where
  k : 0 ≤ p.k ∧ p.k ≤ 255
  mac : p.mac.length = 6
  macB : Byt p.mac
  info : Fit p.info
  b : Slc W (.slice p.bA p.bn p.bc) bs0
  bB : Byt bs0
  bn : p.bn ≤ 140737488355328
  n : 0 ≤ p.n ∧ p.n ≤ 4294967295
  non : p.non.length = 6
  nonB : Byt p.non
  s : ReadsA W p.sA az
  sl : az.length = p.sn
  sn : p.sn ≤ 8796093022208
  sB : ∀ a ∈ az, Byt a
  d : ReadsS W p.dA ss
  dl : ss.length = p.dn
  dn : p.dn ≤ 8796093022208
  dB : ∀ s ∈ ss, s.length ≤ 140737488355328
theorem _root_.Go.Proofs.YtdebifkefpclaaaDoor.Opens.strs {W : World} {t : TypeId} {cs : List Value} (h : Opens W t cs) (ht : Tryd.prog.underlying t = some .string) : ∃ s : Str, cs = [.string (bs s)] ∧ s.length ≤ 140737488355328 := by
  obtain ⟨H, enc, base, sp, held, fuel, x, h, hs⟩ := h
  obtain ⟨s, e, hx, hw⟩ := DataW.trod_string ht h
  refine ⟨s.data.toList, by rw [e, ← bs_of], ?_⟩
  rw [hx] at hs
  have := hs s.data.toList.length (by simp [DataW.weights])
  unfold reachBytes at this
  omega
theorem open_addrs {W : World} {cs : List Value} (h : Opens W 55 cs) : ∃ A n c az, cs = [.slice A n c] ∧ n ≤ c ∧ n ≤ 8796093022208 ∧ az.length = n ∧ ReadsA W A az ∧ ∀ a ∈ az, Byt a := by
  obtain ⟨A, n, c, rfl, h1, _, h3, _, hx⟩ := h.slice Tryd.underlying55
  have c16 : Tryd.prog.cellsOf 49 = 16 := by kernel_rfl
  rw [c16] at hx
  rw [show Tryd.prog.bytesOf 49 = 16 by kernel_rfl] at h3
  have h2 : n ≤ 8796093022208 := by unfold reachBytes at h3; omega
  obtain ⟨f, hf⟩ := Go.Deep.choose_lt (α := List Int) (p := fun i zs => zs.length = 16 ∧ Byt zs ∧ ∃ a, A = some a ∧ Rd W (some (a.add (i * 16))) zs) (fun i hi => by
    obtain ⟨a, cs', rfl, hlen, hc, ho⟩ := hx i hi
    obtain ⟨zs, rfl, hl, hw⟩ := ho.ints Tryd.underlying49 Tryd.underlying5 cells_u8 c16
    refine ⟨zs, hl, fun z hz => u8_of (hw z hz), a, rfl, fun j hj => ⟨_, rfl, ?_⟩⟩
    have := hc j (by omega)
    rw [show (a.add (i * 16)).add j = a.add (i * 16 + j) from Go.Deep.add_add a (i * 16) j]
    rw [this]
    simp [List.getD, hj])
  refine ⟨A, n, c, (List.range n).map f, rfl, h1, h2, by simp, fun i zs ho => ?_, fun a ha => ?_⟩
  · have hi : i < n := by have := (List.getElem?_eq_some_iff.1 ho).1; simpa using this
    simp [hi] at ho
    subst ho
    obtain ⟨e1, _, e3⟩ := hf i hi
    exact ⟨e1, e3⟩
  · simp at ha
    obtain ⟨i, hi, rfl⟩ := ha
    exact (hf i hi).2.1
theorem open_texts {W : World} {cs : List Value} (h : Opens W 56 cs) : ∃ A n c ss, cs = [.slice A n c] ∧ n ≤ c ∧ n ≤ 8796093022208 ∧ ss.length = n ∧ ReadsS W A ss ∧ ∀ s ∈ ss, s.length ≤ 140737488355328 := by
  obtain ⟨A, n, c, rfl, h1, _, h3, _, hx⟩ := h.slice Tryd.underlying56
  have c1 : Tryd.prog.cellsOf 9 = 1 := by kernel_rfl
  rw [c1] at hx
  rw [show Tryd.prog.bytesOf 9 = 16 by kernel_rfl] at h3
  have h2 : n ≤ 8796093022208 := by unfold reachBytes at h3; omega
  obtain ⟨f, hf⟩ := Go.Deep.choose_lt (α := Str) (p := fun i s => s.length ≤ 140737488355328 ∧ ∃ a, A = some a ∧ W.cell? (a.add i) = some (.string (bs s))) (fun i hi => by
    obtain ⟨a, cs', rfl, hlen, hc, ho⟩ := hx i hi
    obtain ⟨s, rfl, hl⟩ := ho.strs Tryd.underlying9
    refine ⟨s, hl, a, rfl, ?_⟩
    have := hc 0 (by omega)
    simpa using this)
  refine ⟨A, n, c, (List.range n).map f, rfl, h1, h2, by simp, fun i s ho => ?_, fun a ha => ?_⟩
  · have hi : i < n := by have := (List.getElem?_eq_some_iff.1 ho).1; simpa using this
    simp [hi] at ho
    subst ho
    exact (hf i hi).2
  · simp at ha
    obtain ⟨i, hi, rfl⟩ := ha
    exact (hf i hi).1
theorem cut_at (cs : List Value) (o n m : Nat) (h : o + n = m) : cs.drop o = (cs.drop o).take n ++ cs.drop m := by
  subst h
  rw [← List.drop_drop, List.take_append_drop]
theorem open_info {W : World} {cs : List Value} (h : Opens W 54 cs) : ∃ p, cs = pic p ∧ Fit p := by
  obtain ⟨hl, hf⟩ := h.struct Tryd.underlying54
  rw [show Tryd.prog.cellsOf 54 = 21 by kernel_rfl] at hl
  have g0 : Opens W 51 ((cs.drop 0).take (Tryd.prog.cellsOf 51)) := hf 0 _ rfl
  have g1 : Opens W 4 ((cs.drop 17).take (Tryd.prog.cellsOf 4)) := hf 1 _ rfl
  have g2 : Opens W 4 ((cs.drop 18).take (Tryd.prog.cellsOf 4)) := hf 2 _ rfl
  have g3 : Opens W 52 ((cs.drop 19).take (Tryd.prog.cellsOf 52)) := hf 3 _ rfl
  have g4 : Opens W 52 ((cs.drop 20).take (Tryd.prog.cellsOf 52)) := hf 4 _ rfl
  rw [show Tryd.prog.cellsOf 51 = 17 by kernel_rfl] at g0
  rw [show Tryd.prog.cellsOf 4 = 1 by kernel_rfl] at g1 g2
  rw [show Tryd.prog.cellsOf 52 = 1 by kernel_rfl] at g3 g4
  obtain ⟨b1, e1⟩ := g1.bool Tryd.underlying4
  obtain ⟨b2, e2⟩ := g2.bool Tryd.underlying4
  obtain ⟨v3, e3, w3⟩ := g3.int Tryd.underlying52
  obtain ⟨v4, e4, w4⟩ := g4.int Tryd.underlying52
  obtain ⟨_, hp⟩ := g0.struct Tryd.underlying51
  have k0 : Opens W 49 ((((cs.drop 0).take 17).drop 0).take (Tryd.prog.cellsOf 49)) := hp 0 _ rfl
  have k1 : Opens W 5 ((((cs.drop 0).take 17).drop 16).take (Tryd.prog.cellsOf 5)) := hp 1 _ rfl
  have c16 : Tryd.prog.cellsOf 49 = 16 := by kernel_rfl
  obtain ⟨zs, e5, hzl, hzw⟩ := k0.ints Tryd.underlying49 Tryd.underlying5 cells_u8 c16
  rw [cells_u8] at k1
  rw [c16] at e5
  obtain ⟨v6, e6, w6⟩ := k1.int Tryd.underlying5
  have f5 : (cs.drop 0).take 16 = bv zs := by
    rw [← show ((((cs.drop 0).take 17).drop 0).take 16) = (cs.drop 0).take 16 by simp [List.take_take]]
    exact e5
  have f6 : (cs.drop 16).take 1 = [.int .u8 v6] := by
    rw [← show ((((cs.drop 0).take 17).drop 16).take 1) = (cs.drop 16).take 1 by simp [List.drop_take, List.take_take]]
    exact e6
  refine ⟨⟨zs, v6, b1, b2, v3, v4⟩, ?_, ⟨hzl, fun z hz => u8_of (hzw z hz), u8_of w6, ?_, ?_⟩⟩
  · have := cut_at cs 0 16 16 rfl
    rw [f5, cut_at cs 16 1 17 rfl, f6, cut_at cs 17 1 18 rfl, e1, cut_at cs 18 1 19 rfl, e2, cut_at cs 19 1 20 rfl, e3, cut_at cs 20 1 21 rfl, e4, show cs.drop 21 = [] from List.drop_of_length_le (by omega), List.drop_zero] at this
    rw [this]
    rfl
  · simpa [Lit.wf, IntKind.min, IntKind.max, IntKind.signed, IntKind.bits] using w3
  · simpa [Lit.wf, IntKind.min, IntKind.max, IntKind.signed, IntKind.bits] using w4
theorem open_parts {W : World} {cs : List Value} (h : Opens W 58 cs) : ∃ p bs0 az ss, cs = ptc p ∧ Has W p bs0 az ss := by
  obtain ⟨hl, hf⟩ := h.struct Tryd.underlying58
  rw [show Tryd.prog.cellsOf 58 = 38 by kernel_rfl] at hl
  have g0 : Opens W 5 ((cs.drop 0).take (Tryd.prog.cellsOf 5)) := hf 0 _ rfl
  have g1 : Opens W 47 ((cs.drop 1).take (Tryd.prog.cellsOf 47)) := hf 1 _ rfl
  have g2 : Opens W 54 ((cs.drop 7).take (Tryd.prog.cellsOf 54)) := hf 2 _ rfl
  have g3 : Opens W 26 ((cs.drop 28).take (Tryd.prog.cellsOf 26)) := hf 3 _ rfl
  have g4 : Opens W 52 ((cs.drop 29).take (Tryd.prog.cellsOf 52)) := hf 4 _ rfl
  have g5 : Opens W 46 ((cs.drop 30).take (Tryd.prog.cellsOf 46)) := hf 5 _ rfl
  have g6 : Opens W 55 ((cs.drop 36).take (Tryd.prog.cellsOf 55)) := hf 6 _ rfl
  have g7 : Opens W 56 ((cs.drop 37).take (Tryd.prog.cellsOf 56)) := hf 7 _ rfl
  have c6 : Tryd.prog.cellsOf 47 = 6 := by kernel_rfl
  have c6' : Tryd.prog.cellsOf 46 = 6 := by kernel_rfl
  rw [cells_u8] at g0
  rw [show Tryd.prog.cellsOf 54 = 21 by kernel_rfl] at g2
  rw [cells_bytes] at g3
  rw [show Tryd.prog.cellsOf 52 = 1 by kernel_rfl] at g4
  rw [show Tryd.prog.cellsOf 55 = 1 by kernel_rfl] at g6
  rw [show Tryd.prog.cellsOf 56 = 1 by kernel_rfl] at g7
  obtain ⟨k, e0, w0⟩ := g0.int Tryd.underlying5
  obtain ⟨ms, e1, hm, wm⟩ := g1.ints Tryd.underlying47 Tryd.underlying5 cells_u8 c6
  rw [c6] at e1
  obtain ⟨p, e2, hp⟩ := open_info g2
  obtain ⟨A, c, zs, e3, k1, _, k2, k6, k3, k4⟩ := g3.nums Tryd.underlying26 Tryd.underlying5 cells_u8
  rw [show Tryd.prog.bytesOf 5 = 1 by kernel_rfl] at k2
  obtain ⟨v4, e4, w4⟩ := g4.int Tryd.underlying52
  obtain ⟨ns, e5, hn, wn⟩ := g5.ints Tryd.underlying46 Tryd.underlying5 cells_u8 c6'
  rw [c6'] at e5
  obtain ⟨sA, sn, sc, az, e6, _, s2, s3, s4, s5⟩ := open_addrs g6
  obtain ⟨dA, dn, dc, ss, e7, _, d2, d3, d4, d5⟩ := open_texts g7
  refine ⟨⟨k, ms, p, A, zs.length, c, v4, ns, sA, sn, sc, dA, dn, dc⟩, zs, az, ss, ?_, ⟨u8_of w0, hm, fun z hz => u8_of (wm z hz), hp, slc_of_rd k3 k1 k6, fun z hz => u8_of (k4 z hz), by unfold reachBytes at k2; simp only; omega, ?_, hn, fun z hz => u8_of (wn z hz), s4, s3, s2, s5, d4, d3, d2, d5⟩⟩
  · have := cut_at cs 0 1 1 rfl
    rw [e0, cut_at cs 1 6 7 rfl, e1, cut_at cs 7 21 28 rfl, e2, cut_at cs 28 1 29 rfl, e3, cut_at cs 29 1 30 rfl, e4, cut_at cs 30 6 36 rfl, e5, cut_at cs 36 1 37 rfl, e6, cut_at cs 37 1 38 rfl, e7, show cs.drop 38 = [] from List.drop_of_length_le (by omega), List.drop_zero] at this
    rw [this]
    rfl
  · simpa [Lit.wf, IntKind.min, IntKind.max, IntKind.signed, IntKind.bits] using w4

def sumS (ss : List Str) : Nat := (ss.map fun s => 1 + s.length).sum
theorem sumS_next {ss : List Str} {i : Nat} {s : Str} (h : ss[i]? = some s) : sumS (ss.take (i + 1)) = sumS (ss.take i) + (1 + s.length) := by
  have : ss.take (i + 1) = ss.take i ++ [s] := by
    rw [List.take_add_one, h]
    rfl
  unfold sumS
  rw [this]
  simp
theorem sumS_take (ss : List Str) (i : Nat) : sumS (ss.take i) ≤ sumS ss := by
  have : sumS ss = sumS (ss.take i) + sumS (ss.drop i) := by
    unfold sumS
    rw [← List.sum_append, ← List.map_append, List.take_append_drop]
  omega
def lenP (p : Pt) (ss : List Str) : Nat := p.bn + 16 * p.sn + sumS ss
theorem ptc_at {p : Pt} (hm : p.mac.length = 6) (hi : Fit p.info) (hn : p.non.length = 6) : (ptc p)[0]? = some (.int .u8 p.k) ∧ Part (ptc p) 1 (bv p.mac) ∧ Part (ptc p) 7 (pic p.info) ∧ (ptc p)[28]? = some (.slice p.bA p.bn p.bc) ∧ (ptc p)[29]? = some (.int .u32 p.n) ∧ Part (ptc p) 30 (bv p.non) ∧ (ptc p)[36]? = some (.slice p.sA p.sn p.sc) ∧ (ptc p)[37]? = some (.slice p.dA p.dn p.dc) := by
  have hp := pic_len hi
  have key : ∀ (a b c : List Value) (o : Nat), ptc p = a ++ (b ++ c) → o = a.length → Part (ptc p) o b := fun a b c o e ho => by rw [e]; exact part_mid a b c ho
  have one : ∀ (a c : List Value) (v : Value) (o : Nat), ptc p = a ++ ([v] ++ c) → o = a.length → (ptc p)[o]? = some v := fun a c v o e ho => by
    have := key a [v] c o e ho 0 v rfl
    simpa using this
  refine ⟨rfl, ?_, ?_, ?_, ?_, ?_, ?_, ?_⟩
  · exact key [Value.int .u8 p.k] (bv p.mac) _ 1 rfl rfl
  · exact key ([Value.int .u8 p.k] ++ bv p.mac) (pic p.info) (([Value.slice p.bA p.bn p.bc] ++ ([Value.int .u32 p.n] ++ (bv p.non ++ ([Value.slice p.sA p.sn p.sc] ++ [Value.slice p.dA p.dn p.dc]))))) 7 (by simp [ptc]) (by simp [bv_length, hm])
  · exact one ([Value.int .u8 p.k] ++ bv p.mac ++ pic p.info) ([Value.int .u32 p.n] ++ (bv p.non ++ ([Value.slice p.sA p.sn p.sc] ++ [Value.slice p.dA p.dn p.dc]))) _ 28 (by simp [ptc]) (by simp only [List.length_append, bv_length, hm, hp, List.length_cons, List.length_nil])
  · exact one ([Value.int .u8 p.k] ++ bv p.mac ++ pic p.info ++ [Value.slice p.bA p.bn p.bc]) (bv p.non ++ ([Value.slice p.sA p.sn p.sc] ++ [Value.slice p.dA p.dn p.dc])) _ 29 (by simp [ptc]) (by simp only [List.length_append, bv_length, hm, hp, List.length_cons, List.length_nil])
  · exact key ([Value.int .u8 p.k] ++ bv p.mac ++ pic p.info ++ [Value.slice p.bA p.bn p.bc] ++ [Value.int .u32 p.n]) (bv p.non) ([Value.slice p.sA p.sn p.sc] ++ [Value.slice p.dA p.dn p.dc]) 30 (by simp [ptc]) (by simp only [List.length_append, bv_length, hm, hp, List.length_cons, List.length_nil])
  · exact one ([Value.int .u8 p.k] ++ bv p.mac ++ pic p.info ++ [Value.slice p.bA p.bn p.bc] ++ [Value.int .u32 p.n] ++ bv p.non) [Value.slice p.dA p.dn p.dc] _ 36 (by simp [ptc]) (by simp only [List.length_append, bv_length, hm, hp, hn, List.length_cons, List.length_nil])
  · exact one ([Value.int .u8 p.k] ++ bv p.mac ++ pic p.info ++ [Value.slice p.bA p.bn p.bc] ++ [Value.int .u32 p.n] ++ bv p.non ++ [Value.slice p.sA p.sn p.sc]) [] _ 37 (by simp [ptc]) (by simp only [List.length_append, bv_length, hm, hp, hn, List.length_cons, List.length_nil])
theorem Has.at {W : World} {p : Pt} {bs0 : List Int} {az : List (List Int)} {ss : List Str} (h : Has W p bs0 az ss) : (ptc p)[0]? = some (.int .u8 p.k) ∧ Part (ptc p) 1 (bv p.mac) ∧ Part (ptc p) 7 (pic p.info) ∧ (ptc p)[28]? = some (.slice p.bA p.bn p.bc) ∧ (ptc p)[29]? = some (.int .u32 p.n) ∧ Part (ptc p) 30 (bv p.non) ∧ (ptc p)[36]? = some (.slice p.sA p.sn p.sc) ∧ (ptc p)[37]? = some (.slice p.dA p.dn p.dc) := ptc_at h.mac h.info h.non

set_option linter.unusedSimpArgs false in
set_option maxHeartbeats 4000000 in
theorem long_any (p : Pt) (bs0 : List Int) (az : List (List Int)) (ss : List Str) (W w : World) (H : Has W p bs0 az ss) (hW : Below W.heap.size W w) :
    Calls Tryd.prog 27 #[.agg (ptc p).toArray] w fun e w' => e = .returned (.bool (decide (4000 < lenP p ss))) ∧ Below w.heap.size w w' := by
  have Y0 := (Lay.begin w).new (ptc p) 58 (g := w.heap.size) rfl
  obtain ⟨_, _, _, h28, _, _, h36, h37⟩ := H.at
  have c28 := Y0.look mem0 h28
  have c36 := Y0.look mem0 h36
  have c37 := Y0.look mem0 h37
  have VQ := veil Y0.below
  have HS : Hid (∀ (i : Nat) (s : Str), ss[i]? = some s → ∃ a, p.dA = some a ∧ (w.alloc (.cells (ptc p).toArray 58)).cell? (a.add i) = some (.string (bs s))) := veil (fun i s hi => by
    obtain ⟨a, h1, h2⟩ := H.d i s hi
    exact ⟨a, h1, cell_keep (cell_keep h2 hW) Y0.below⟩)
  have HL := veil H.dl
  have HD := veil H.dB
  have b1 : (p.bn : Int) ≤ 140737488355328 := by have := H.bn; omega
  have b2 : (p.sn : Int) ≤ 8796093022208 := by have := H.sn; omega
  have b3 : (p.dn : Int) ≤ 8796093022208 := by have := H.dn; omega
  obtain ⟨n0, hn0⟩ : ∃ n0, p.bn + 16 * p.sn = n0 := ⟨_, rfl⟩
  have e0 : ((p.bn : Int) + 16 * (p.sn : Int)) = (n0 : Int) := by omega
  have HP : Hid (lenP p ss = n0 + sumS ss) := veil (by unfold lenP; rw [hn0])
  clear H Y0 h28 h36 h37
  generalize ptc p = C at *
  generalize hw1 : w.alloc (.cells C.toArray 58) = w1 at *
  obtain ⟨k, mac, info, bA, bn, bc, n, non, sA, sn, sc, dA, dn, dc⟩ := p
  simp only at c28 c36 c37 HS HL b1 b2 b3 e0 hn0
  go_enter Tryd.func27, Tryd.ntmps27
  go_wp2_with fail
  clear hw1 c28 c36 e0
  go_loopw [3, 4] (fun s3 s4 wr => ∃ i : Nat, i ≤ dn ∧ s4 = .int .i64 i ∧ s3 = .int .i64 ((n0 + sumS (ss.take i) : Nat) : Int) ∧ Hid (w1 = wr) ∧ (n0 + sumS (ss.take i) : Nat) ≤ 600000000000000) (fun _ s4 _ => dn - (intOf s4).toNat)
  case atStart => exact ⟨0, Nat.zero_le _, rfl, by simp [sumS], veil rfl, by simp [sumS]; omega⟩
  case round =>
    rename World => wr
    obtain ⟨i, hi, rfl, rfl, hw, hb⟩ := hrel
    obtain rfl : w1 = wr := hw.out
    clear hw
    obtain ⟨m, hm⟩ : ∃ m, n0 + sumS (ss.take i) = m := ⟨_, rfl⟩
    rw [hm] at hb ⊢
    by_cases hlt : i < dn ∧ m < 9000
    · obtain ⟨hlt, h9⟩ := hlt
      have ij : (i : Int) < (dn : Int) := by omega
      have i9 : (m : Int) < 9000 := by omega
      obtain ⟨s, hs⟩ : ∃ s, ss[i]? = some s := ⟨_, List.getElem?_eq_getElem (by rw [HL.out]; exact hlt)⟩
      obtain ⟨a, ha, cs⟩ := HS.out i s hs
      subst ha
      have hsb : ((bs s).size : Int) ≤ 140737488355328 := by have := HD.out s (List.mem_of_getElem? hs); rw [bs_size]; omega
      have hn := sumS_next hs
      have HSS := veil (show n0 + sumS (ss.take (i + 1)) = m + 1 + (bs s).size by rw [bs_size]; omega)
      clear hs hn hm
      go_wp2_with fail
      go_roundw
      case rel => exact ⟨i + 1, by omega, by go_num, by rw [HSS.out]; go_num, veil (by first | trivial | rfl), by rw [HSS.out]; omega⟩
      case measure => simp [intOf]; omega
    · have hres : Hid (decide (4000 < n0 + sumS ss) = decide ((4000 : Int) < (m : Int))) := veil (by
        have h1 := sumS_take ss i
        rw [decide_eq_decide]
        by_cases h : i < dn
        · have h9 : 9000 ≤ m := by omega
          constructor <;> intro _ <;> omega
        · have : ss.take i = ss := List.take_of_length_le (by rw [HL.out]; omega)
          rw [this] at hm
          omega)
      clear hm
      by_cases hin : i < dn
      · have ij : (i : Int) < (dn : Int) := by omega
        have i9 : ¬ (m : Int) < 9000 := by omega
        clear hlt hin
        go_wp2_with fail
        go_ret
        rw [HP.out, hres.out]
        exact ⟨rfl, VQ.out⟩
      · have ij : ¬ (i : Int) < (dn : Int) := by omega
        clear hlt hin
        go_wp2_with fail
        go_ret
        rw [HP.out, hres.out]
        exact ⟨rfl, VQ.out⟩

end Go.Proofs.YtdebifkefpclaaaDoor.Oz
