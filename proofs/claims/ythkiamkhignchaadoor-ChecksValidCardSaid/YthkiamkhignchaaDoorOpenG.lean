/-
  Arguments opened piece by piece, whatever they are made of: cells that read as a type, and what that says of them, for numbers, bools, strings, structs, arrays, slices, pointers.
  Conditions: none.
-/
import Derived.Test.YthkiamkhignchaaDoorOpenK
import Derived.Deep.Slices
import Derived.SizedLaws
namespace Go.Proofs.YthkiamkhignchaaDoor
set_option maxRecDepth 100000
open Go.ChangeShapes Go.WideShapes Go.ChangeAt Go.RowKit

/-- no string, slice or map in it takes more than the form's own reach -/
def Slim {H : Type} (t : TypeId) (d : DataW H) : Prop := ∀ n ∈ d.weights Tryd.prog t, n ≤ reachBytes
/-- these cells read as a thing of type t -/
def Opens (W : World) (t : TypeId) (cs : List Value) : Prop :=
  ∃ (H : Type) (enc : TypeId × Value → H) (base : Nat) (sp : Nat → Bool) (held : Bool) (fuel : Nat) (x : DataW H × List MemPlace), DataW.trod enc Tryd.prog W base sp held fuel t cs = some x ∧ Slim t x.1

theorem slim_of {H : Type} {ts : List TypeId} {ds : List (DataW H)} (h : (DataW.weightsEach Tryd.prog ts ds).all (· ≤ reachBytes) = true) {j : Nat} {t : TypeId} {d : DataW H} (ht : ts[j]? = some t) (hd : ds[j]? = some d) : Slim t d := fun n hn => by
  have := List.all_eq_true.1 h n (DataW.weights_mem_each ht hd n hn)
  simpa using this
theorem weights_all {H : Type} {P : Program} {e : TypeId} : ∀ {ds : List (DataW H)} {j : Nat} {d : DataW H}, ds[j]? = some d → ∀ n ∈ d.weights P e, n ∈ DataW.weightsAll P e ds
  | d0 :: ds, 0, d, hd, n, hn => by
    simp only [List.getElem?_cons_zero, Option.some.injEq] at hd
    subst hd
    simp only [DataW.weightsAll, List.mem_append]
    exact Or.inl hn
  | d0 :: ds, j + 1, d, hd, n, hn => by
    simp only [List.getElem?_cons_succ] at hd
    simp only [DataW.weightsAll, List.mem_append]
    exact Or.inr (weights_all hd n hn)
  | [], _, _, hd, _, _ => by simp at hd

theorem opens_arg {H : Type} {enc : TypeId × Value → H} {W : World} {base : Nat} {sp : Nat → Bool} {held : Bool} {t : TypeId} {v : Value} {d : DataW H} {p : List MemPlace} (h : DataW.Trod enc Tryd.prog W base sp held t v d p) (hs : Slim t d) : Opens W t v.cells.toList := by
  obtain ⟨fuel, hf⟩ := h
  exact ⟨H, enc, base, sp, held, fuel, _, hf, hs⟩

section
variable {W : World} {t : TypeId} {cs : List Value}

theorem Opens.int {k : IntKind} (h : Opens W t cs) (ht : Tryd.prog.underlying t = some (.int k)) : ∃ n, cs = [.int k n] ∧ (Lit.int k n).wf = true := by
  obtain ⟨H, enc, base, sp, held, fuel, x, h, _⟩ := h
  obtain ⟨n, e, _, hw⟩ := DataW.trod_int ht h
  exact ⟨n, e, hw⟩

theorem Opens.bool (h : Opens W t cs) (ht : Tryd.prog.underlying t = some .bool) : ∃ b, cs = [.bool b] := by
  obtain ⟨H, enc, base, sp, held, fuel, x, h, _⟩ := h
  obtain ⟨n, e, _⟩ := DataW.trod_bool ht h
  exact ⟨n, e⟩

theorem Opens.str (h : Opens W t cs) (ht : Tryd.prog.underlying t = some .string) : ∃ s : ByteArray, cs = [.string s] ∧ s.size ≤ maxLen := by
  obtain ⟨H, enc, base, sp, held, fuel, x, h, _⟩ := h
  obtain ⟨n, e, _, hw⟩ := DataW.trod_string ht h
  exact ⟨n, e, hw⟩

theorem Opens.struct {fs : Array Field} (h : Opens W t cs) (ht : Tryd.prog.underlying t = some (.struct fs)) :
    cs.length = Tryd.prog.cellsOf t ∧ ∀ (i : Nat) (f : Field), fs[i]? = some f → Opens W f.type ((cs.drop f.offset).take (Tryd.prog.cellsOf f.type)) := by
  obtain ⟨H, enc, base, sp, held, fuel, x, h, hs⟩ := h
  obtain ⟨xs, n, _, rfl, hl, hxl, hf⟩ := DataW.trod_struct ht h
  refine ⟨hl, fun i f hi => ?_⟩
  have h1 := hf i f hi
  have hi' : i < xs.length := by rw [hxl]; exact (Array.getElem?_eq_some_iff.1 hi).1
  rw [List.getElem?_eq_getElem hi'] at h1
  refine ⟨H, enc, base, sp, held, n, _, h1, fun m hm => hs m ?_⟩
  simp only [DataW.weights, ht]
  exact DataW.weights_mem_each (j := i) (by simp [hi]) (by simp [List.getElem?_eq_getElem hi']) m hm

theorem Opens.array {n : Nat} {e : TypeId} (h : Opens W t cs) (ht : Tryd.prog.underlying t = some (.array n e)) :
    cs.length = Tryd.prog.cellsOf t ∧ ∀ i, i < n → Opens W e ((cs.drop (i * Tryd.prog.cellsOf e)).take (Tryd.prog.cellsOf e)) := by
  obtain ⟨H, enc, base, sp, held, fuel, x, h, hs⟩ := h
  obtain ⟨xs, m, _, rfl, hl, hx, hi⟩ := DataW.trod_array ht h
  refine ⟨hl, fun i hin => ?_⟩
  have h1 := hi i hin
  have hi' : i < xs.length := by omega
  rw [List.getElem?_eq_getElem hi'] at h1
  refine ⟨H, enc, base, sp, held, m, _, h1, fun m hm => hs m ?_⟩
  simp only [DataW.weights, ht]
  exact weights_all (j := i) (by simp [List.getElem?_eq_getElem hi']) m hm

/-- an array of whole numbers -/
theorem Opens.ints {n : Nat} {e : TypeId} {k : IntKind} (h : Opens W t cs) (ht : Tryd.prog.underlying t = some (.array n e)) (he : Tryd.prog.underlying e = some (.int k)) (hce : Tryd.prog.cellsOf e = 1) (hct : Tryd.prog.cellsOf t = n) :
    ∃ zs : List Int, cs = zs.map (Value.int k) ∧ zs.length = n ∧ ∀ z ∈ zs, (Lit.int k z).wf = true := by
  obtain ⟨hl, hi⟩ := h.array ht
  rw [hct] at hl
  have hat : ∀ i, i < n → ∃ z, cs[i]? = some (.int k z) ∧ (Lit.int k z).wf = true := by
    intro i hin
    have h1 := hi i hin
    rw [hce, Nat.mul_one] at h1
    obtain ⟨z, hz, hw⟩ := h1.int he
    refine ⟨z, ?_, hw⟩
    have h2 := congrArg (fun l => l[0]?) hz
    simpa using h2
  refine ⟨cs.map intOf, ?_, by simp [hl], ?_⟩
  · apply List.ext_getElem?
    intro i
    by_cases hin : i < n
    · obtain ⟨z, hz, _⟩ := hat i hin
      simp [hz, intOf]
    · rw [List.getElem?_eq_none (by omega), List.getElem?_eq_none (by simp; omega)]
  · intro z hz
    obtain ⟨v, hv, rfl⟩ := List.mem_map.1 hz
    obtain ⟨i, hi', hv'⟩ := List.getElem_of_mem hv
    obtain ⟨z, hz', hw⟩ := hat i (by omega)
    rw [List.getElem?_eq_getElem hi', hv'] at hz'
    injection hz' with hz'
    subst hz'
    exact hw

/-- a slice, at each of its places -/
theorem Opens.slice {e : TypeId} (h : Opens W t cs) (ht : Tryd.prog.underlying t = some (.slice e)) :
    ∃ A n c, cs = [.slice A n c] ∧ n ≤ c ∧ c ≤ maxLen ∧ n * Tryd.prog.bytesOf e ≤ reachBytes ∧ (A = none → c = 0) ∧ ∀ i, i < n → ∃ a cs', A = some a ∧ cs'.length = Tryd.prog.cellsOf e ∧ (∀ j, j < Tryd.prog.cellsOf e → W.cell? (a.add (i * Tryd.prog.cellsOf e + j)) = cs'[j]?) ∧ Opens W e cs' := by
  obtain ⟨H, enc, base, sp, held, fuel, x, h, hs⟩ := h
  rcases Go.Deep.open_slice ht h with ⟨rfl, _⟩ | ⟨a, len, cap, m, n, D, Pl, rfl, _, hl, hm, hmm, rfl, hx⟩
  · exact ⟨none, 0, 0, rfl, Nat.le_refl _, Nat.zero_le _, by simp, fun _ => rfl, fun i hi => by omega⟩
  · refine ⟨some a, len, cap, rfl, hl, hm, ?_, (fun e => by cases e), fun i hi => ?_⟩
    · have h1 := hs _ (by simp only [DataW.weights, ht]; exact List.mem_cons_self)
      simp only [List.length_map, List.length_range] at h1
      exact Nat.le_trans (Nat.mul_le_mul_right _ (by omega)) h1
    obtain ⟨cs', h1, h2⟩ := hx i (by rw [hmm]; split <;> omega)
    obtain ⟨_, hlen, hcell⟩ := World.cells?_some h1
    refine ⟨a, cs', rfl, hlen, fun j hj => ?_, ⟨H, enc, base, sp, held, n, _, h2, fun q hq => hs q ?_⟩⟩
    · have := hcell j hj
      rwa [Go.Deep.add_add] at this
    · simp only [DataW.weights, ht, List.mem_cons, List.mem_append]
      exact Or.inr (Or.inl (weights_all (j := i) (by simp [hi]) q hq))

/-- a slice of whole numbers -/
theorem Opens.nums {e : TypeId} {k : IntKind} (h : Opens W t cs) (ht : Tryd.prog.underlying t = some (.slice e)) (he : Tryd.prog.underlying e = some (.int k)) (hce : Tryd.prog.cellsOf e = 1) :
    ∃ A c zs, cs = [.slice A zs.length c] ∧ zs.length ≤ c ∧ c ≤ maxLen ∧ zs.length * Tryd.prog.bytesOf e ≤ reachBytes ∧ (A = none → c = 0) ∧ Rk k W A zs ∧ (∀ z ∈ zs, (Lit.int k z).wf = true) := by
  obtain ⟨A, n, c, rfl, h1, h2, h3, h4, hx⟩ := h.slice ht
  rw [hce] at hx
  obtain ⟨f, hf⟩ := Go.Deep.choose_lt (α := Int) (p := fun i z => (Lit.int k z).wf = true ∧ ∃ a, A = some a ∧ W.cell? (a.add i) = some (.int k z)) (fun i hi => by
    obtain ⟨a, cs', rfl, hlen, hc, ho⟩ := hx i hi
    obtain ⟨z, rfl, hw⟩ := ho.int he
    exact ⟨z, hw, a, rfl, by simpa using hc 0 (by omega)⟩)
  refine ⟨A, c, (List.range n).map f, by simp, by simpa using h1, h2, by simpa using h3, h4, ?_, ?_⟩
  · intro j hj
    simp only [List.length_map, List.length_range] at hj
    obtain ⟨_, a, e, hc⟩ := hf j hj
    exact ⟨a, e, by simpa [List.getD, hj] using hc⟩
  · intro z hz
    obtain ⟨i, hi, rfl⟩ := List.mem_map.1 hz
    exact (hf i (List.mem_range.1 hi)).1

theorem Opens.ptr {e : TypeId} (h : Opens W t cs) (ht : Tryd.prog.underlying t = some (.pointer e)) :
    cs = [.pointer none] ∨ ∃ a cs', cs = [.pointer (some a)] ∧ cs'.length = Tryd.prog.cellsOf e ∧ (∀ j, j < Tryd.prog.cellsOf e → W.cell? (a.add j) = cs'[j]?) ∧ Opens W e cs' := by
  obtain ⟨H, enc, base, sp, held, fuel, x, h, hs⟩ := h
  rcases DataW.trod_pointer ht h with ⟨rfl, _⟩ | ⟨a, cs', y, n, _, rfl, rfl, h1, h2⟩
  · exact .inl rfl
  · obtain ⟨_, hlen, hcell⟩ := World.cells?_some h1
    exact .inr ⟨a, cs', rfl, hlen, hcell, ⟨H, enc, base, sp, held, n, _, h2, fun q hq => hs q (by simp only [DataW.weights, ht]; exact hq)⟩⟩
end

/-- what an argument of more than one cell is -/
theorem okWide_array2 {W : World} {r : Reach} {b0 : Nat} {t e : TypeId} {n : Nat} {v : Value} (ht : Tryd.prog.underlying t = some (.array n e)) (h : Value.okWide Tryd.prog W r b0 t v) : ∃ cs, v = .agg cs ∧ cs.size = Tryd.prog.cellsOf t := by
  simp only [Value.okWide, ht] at h
  obtain ⟨cs, h1, h2, _⟩ := h
  exact ⟨cs, h1, h2⟩

end Go.Proofs.YthkiamkhignchaaDoor
