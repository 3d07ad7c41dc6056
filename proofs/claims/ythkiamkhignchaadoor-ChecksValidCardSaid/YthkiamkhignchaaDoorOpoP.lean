/-
  Options' bytes, by the code: whatever options there are.
  Conditions: a list that reads as options; at most 16000000 bytes all in all.
-/
import Derived.Test.YthkiamkhignchaaDoorOpoR
import Derived.StillTailTactics
namespace Go.Proofs.YthkiamkhignchaaDoor.Oz
set_option maxRecDepth 100000
open Go.RowKit Ops

/-- how many eights n bytes of data take -/
def e8 (n : Nat) : Nat := min ((n + 9) / 8) 255
theorem e8_pos (n : Nat) : 1 ≤ e8 n ∧ e8 n ≤ 255 := by unfold e8; omega
/-- how many of them stand there -/
def kept8 (n : Nat) : Nat := min n (8 * e8 n - 2)
theorem kept8_le (n : Nat) : kept8 n ≤ n ∧ kept8 n ≤ 2038 ∧ kept8 n + 2 ≤ 8 * e8 n := by unfold kept8 e8; omega
/-- an option's bytes -/
def ob (o : Int × List Int) : List Int := [o.1, (e8 o.2.length : Int)] ++ o.2.take (kept8 o.2.length) ++ List.replicate (8 * e8 o.2.length - 2 - kept8 o.2.length) 0
theorem ob_len (o : Int × List Int) : (ob o).length = 8 * e8 o.2.length := by
  have h := kept8_le o.2.length
  simp [ob]
  omega
def putO (os : List (Int × List Int)) : List Int := os.flatMap ob
def sizeO (os : List (Int × List Int)) : Nat := (putO os).length
theorem putO_next {os : List (Int × List Int)} {i : Nat} {o : Int × List Int} (h : os[i]? = some o) : putO (os.take (i + 1)) = putO (os.take i) ++ ob o := by
  have : os.take (i + 1) = os.take i ++ [o] := by
    rw [List.take_add_one, h]
    rfl
  rw [this]
  simp [putO]
theorem sizeO_next {os : List (Int × List Int)} {i : Nat} {o : Int × List Int} (h : os[i]? = some o) : sizeO (os.take (i + 1)) = sizeO (os.take i) + 8 * e8 o.2.length := by
  unfold sizeO
  rw [putO_next h, List.length_append, ob_len]
theorem sizeO_take (os : List (Int × List Int)) (i : Nat) : sizeO (os.take i) ≤ sizeO os := by
  have : putO os = putO (os.take i) ++ putO (os.drop i) := by
    unfold putO
    rw [← List.flatMap_append, List.take_append_drop]
  unfold sizeO
  rw [this, List.length_append]
  omega

theorem sizeO_many (os : List (Int × List Int)) : 8 * os.length ≤ sizeO os := by
  induction os with
  | nil => simp
  | cons o os ih =>
    have h1 : sizeO (o :: os) = (ob o).length + sizeO os := by simp [sizeO, putO]
    have h2 := ob_len o
    have h3 := e8_pos o.2.length
    simp only [List.length_cons]
    omega

theorem zeroO : (Tryd.prog.info? 46).map (·.size) = some 2 := by kernel_rfl
theorem store_byte {w : World} {g : Nat} {t : TypeId} {l : List Int} (h : Row w g t (bv l).toArray) {i : Nat} (hi : i < l.length) (z : Int) : (Instr.storeAt 5 (.pointer (some ⟨g, i, none⟩)) (.int .u8 z)).run Tryd.prog w = .ok () (w.setCell ⟨g, i, none⟩ (.int .u8 z)) := by
  have c : w.cell? ⟨g, i, none⟩ = some (.int .u8 (l.getD i 0)) := by rw [h.cell]; simpa using bv_get l i hi
  have f : w.frozen? ⟨g, i, none⟩ = false := h.frozen i
  obtain ⟨j, hj, hz0, hz1, hz2⟩ := info_parts info_u8
  have a0 : (⟨g, i, none⟩ : Addr).add 0 = ⟨g, i, none⟩ := by simp [Addr.add]
  simp [a0, Instr.storeAt, Instr.sureAddr, storeVar, sizeOf, typeInfo, hj, hz1, Value.cells, storeCells, run_store_int, stored, c, f]
theorem _root_.Go.Proofs.YthkiamkhignchaaDoor.Lay.poke {w0 w : World} {L : List Blk} {g : Nat} {t : TypeId} {l : List Int} (h : Lay w0 w L) (k : Nat) (hk : L[k]? = some (g, t, bv l)) {i : Nat} (hi : i < l.length) (z : Int) :
    ∃ w', (Instr.storeAt 5 (.pointer (some ⟨g, i, none⟩)) (.int .u8 z)).run Tryd.prog w = .ok () w' ∧ Lay w0 w' (L.set k (g, t, bv (l.set i z))) := by
  refine ⟨_, store_byte (h.at (List.mem_of_getElem? hk)) hi z, ?_⟩
  have := h.cell k hk i (.int .u8 z)
  rw [show bv (l.set i z) = (bv l).set i (.int .u8 z) by simp [bv, List.map_set]]
  exact this
theorem copy_min {w : World} {g o N c n c2 m : Nat} {t : TypeId} {cur : List Value} {A : Option Addr} {zs : List Int} (ty : TypeId) (hs : Slc w (.slice A n c2) zs) (hg : Row w g t cur.toArray) (hm : min n N = m) (ho : o + m ≤ cur.length) :
    (Builtin.copy_ #[28, 28] ty #[.slice (some ⟨g, o, none⟩) N c, .slice A n c2]).run Tryd.prog w = .ok (goInt m) (w.setRow g (cur.take o ++ bv (zs.take m) ++ cur.drop (o + m)).toArray) := by
  obtain ⟨hl, hr, _⟩ := slc_of hs
  obtain ⟨i, hi, hz0, hz1, hz2⟩ := info_parts info_u8
  have hsz : (Tryd.prog.info? 5).map (·.size) = some 1 := by rw [hi]; simp [hz1]
  have hml : (zs.take m).length = m := by rw [List.length_take]; omega
  by_cases h0 : 0 < n
  · obtain ⟨a, rfl, _⟩ := hr 0 (by omega)
    have h := run_copy_row (P := Tryd.prog) w 28 28 ty 5 g o N c a n c2 cur.toArray t (bv (zs.take m)) Tryd.underlying28 hsz hg (by rw [bv_length, hml, ← hm])
      (rd_list (hr.take m)) (by rw [bv_length, hml]; simpa using ho) (bv_one _)
    simpa [bv_length, hml] using h
  · obtain rfl : n = 0 := by omega
    obtain rfl : m = 0 := by omega
    have hz : zs = [] := List.eq_nil_of_length_eq_zero hl
    subst hz
    have e : cur.take o ++ bv ([].take 0) ++ cur.drop (o + 0) = cur := by simp [bv]
    rw [e, setRow_self w g cur.toArray t (0, 0) hg]
    exact run_copy_none w 28 28 ty 5 (some ⟨g, o, none⟩) A N c 0 c2 Tryd.underlying28 hsz (by simp)

theorem fill_eq {l0 d ze : List Int} {p r en m : Nat} {k q : Int} (h0 : l0.length = p) (hz : ze = List.replicate (r - 2) 0) (h1 : m + 2 ≤ en) (h2 : en ≤ r) :
    (bv (l0 ++ k :: q :: ze)).take (p + 2) ++ bv (d.take m) ++ (bv (l0 ++ k :: q :: ze)).drop (p + 2 + m) = bv (l0 ++ ([k, q] ++ d.take m ++ List.replicate (en - 2 - m) 0) ++ List.replicate (r - en) 0) := by
  have e1 : (l0 ++ k :: q :: ze).take (p + 2) = l0 ++ [k, q] := by
    rw [show l0 ++ k :: q :: ze = (l0 ++ [k, q]) ++ ze by simp]
    exact List.take_left' (by simp [h0])
  have e2 : (l0 ++ k :: q :: ze).drop (p + 2 + m) = List.replicate (en - 2 - m) 0 ++ List.replicate (r - en) 0 := by
    rw [show l0 ++ k :: q :: ze = (l0 ++ [k, q]) ++ ze by simp, ← List.drop_drop, List.drop_left' (by simp [h0]), hz, List.drop_replicate, List.replicate_append_replicate]
    congr 1
    omega
  have t : ∀ (l : List Int) (k : Nat), (bv l).take k = bv (l.take k) := fun l k => by simp [bv]
  have u : ∀ (l : List Int) (k : Nat), (bv l).drop k = bv (l.drop k) := fun l k => by simp [bv]
  have v : ∀ (l m : List Int), bv l ++ bv m = bv (l ++ m) := fun l m => by simp [bv]
  rw [t, u, e1, e2, v, v]
  simp

end Go.Proofs.YthkiamkhignchaaDoor.Oz
