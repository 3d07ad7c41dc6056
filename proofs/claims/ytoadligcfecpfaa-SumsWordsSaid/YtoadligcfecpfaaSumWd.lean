/-
  Words: numbers of 16 bits as bytes, their sum, and the same in another order.
  Conditions: none.
-/
import Derived.Test.YtoadligcfecpfaaSumEn
namespace Go.Proofs.Ytoadligcfecpfaa
open Go.ChangeShapes Go.WideShapes Go.ChangeAt Go.RowKit

/-- words, as bytes -/
def flat : List Int → List Int
  | [] => []
  | x :: r => x / 256 :: x % 256 :: flat r
/-- words, added -/
def wsum : List Int → Int
  | [] => 0
  | x :: r => x + wsum r

theorem flat_append : ∀ (a b : List Int), flat (a ++ b) = flat a ++ flat b
  | [], b => rfl
  | x :: a, b => by simp [flat, flat_append a b]
theorem flat_length : ∀ (a : List Int), (flat a).length = 2 * a.length
  | [] => rfl
  | x :: a => by simp [flat, flat_length a]; omega
theorem flat_next (l : List Int) (j : Nat) (h : j < l.length) : flat (l.take (j + 1)) = flat (l.take j) ++ [l.getD j 0 / 256, l.getD j 0 % 256] := by
  rw [take_next l j h, flat_append]
  rfl
theorem tot_flat : ∀ (l : List Int), tot (flat l) = wsum l
  | [] => rfl
  | x :: l => by
    simp only [flat, tot, wsum, tot_flat l]
    omega
theorem wsum_append : ∀ (a b : List Int), wsum (a ++ b) = wsum a + wsum b
  | [], b => by simp [wsum]
  | x :: a, b => by simp only [List.cons_append, wsum, wsum_append a b]; omega
theorem wsum_reverse : ∀ (a : List Int), wsum a.reverse = wsum a
  | [] => rfl
  | x :: a => by simp only [List.reverse_cons, wsum_append, wsum_reverse a, wsum]; omega
/-- numbers of 16 bits -/
def Wrd (l : List Int) : Prop := ∀ z ∈ l, 0 ≤ z ∧ z ≤ 65535
theorem flat_byt : ∀ (l : List Int), Wrd l → Byt (flat l)
  | [], _ => by simp [flat, Byt]
  | x :: l, h => by
    have hx := h x (by simp)
    have ih := flat_byt l (fun z hz => h z (by simp [hz]))
    intro z hz
    simp [flat] at hz
    rcases hz with rfl | rfl | hz
    · omega
    · omega
    · exact ih z hz
theorem Wrd.at_ {l : List Int} (h : Wrd l) (j : Nat) : 0 ≤ l.getD j 0 ∧ l.getD j 0 ≤ 65535 := by
  by_cases hj : j < l.length
  · have : l.getD j 0 = l[j] := by simp [List.getD, hj]
    rw [this]
    exact h _ (List.getElem_mem hj)
  · have : l.getD j 0 = 0 := by simp [List.getD, show l.length ≤ j by omega]
    rw [this]
    omega

/-- the other order -/
def turnd (l : List Int) (at' : Nat) : List Int := (l.drop (at' % l.length) ++ l.take (at' % l.length)).reverse
theorem turnd_length (l : List Int) (k : Nat) : (turnd l k).length = l.length := by simp [turnd]; omega
theorem turnd_wsum (l : List Int) (k : Nat) : wsum (turnd l k) = wsum l := by
  unfold turnd
  rw [wsum_reverse, wsum_append]
  have h := wsum_append (l.take (k % l.length)) (l.drop (k % l.length))
  rw [List.take_append_drop] at h
  omega
theorem turnd_at (l : List Int) (k i : Nat) (hi : i < l.length) : (turnd l k).getD i 0 = l.getD ((l.length - 1 - i + k) % l.length) 0 := by
  have hr : k % l.length < l.length := Nat.mod_lt _ (by omega)
  have hm : (l.length - 1 - i + k) % l.length = if l.length - 1 - i + k % l.length < l.length then l.length - 1 - i + k % l.length else l.length - 1 - i + k % l.length - l.length := by
    rw [Nat.add_mod, Nat.mod_eq_of_lt (show l.length - 1 - i < l.length by omega)]
    split
    · rename_i h
      exact Nat.mod_eq_of_lt h
    · rename_i h
      rw [Nat.mod_eq_sub_mod (by omega), Nat.mod_eq_of_lt (by omega)]
  rw [hm]
  unfold turnd
  clear hm
  generalize k % l.length = r at *
  simp only [List.getD_eq_getElem?_getD]
  rw [List.getElem?_reverse (by simp; omega)]
  have hl : (l.drop r ++ l.take r).length = l.length := by simp; omega
  rw [hl]
  by_cases h : l.length - 1 - i + r < l.length
  · rw [if_pos h, List.getElem?_append_left (by simp; omega), List.getElem?_drop, Nat.add_comm]
  · rw [if_neg h, List.getElem?_append_right (by simp; omega), List.getElem?_take, if_pos (by simp; omega)]
    congr 2
    simp
    omega
theorem turnd_wrd (l : List Int) (k : Nat) (h : Wrd l) : Wrd (turnd l k) := fun z hz => by
  unfold turnd at hz
  simp only [List.mem_reverse, List.mem_append] at hz
  exact hz.elim (fun h1 => h z (List.mem_of_mem_drop h1)) (fun h1 => h z (List.mem_of_mem_take h1))

/-- a slice at A reads as these numbers of 16 bits -/
def Rd16 (w : World) (A : Option Addr) (zs : List Int) : Prop := ∀ j, j < zs.length → ∃ a, A = some a ∧ w.cell? (a.add j) = some (.int .u16 (zs.getD j 0))
theorem Rd16.keep {w w' : World} {A : Option Addr} {zs : List Int} (h : Rd16 w A zs) (hb : Below w.heap.size w w') : Rd16 w' A zs := by
  intro j hj
  obtain ⟨a, e, hc⟩ := h j hj
  exact ⟨a, e, by rw [hb.cell (block_lt_of_cell hc), hc]⟩
theorem cellsU16 : Try.prog.cellsOf 25 = 1 := by kernel_rfl
theorem u16_of {n : Int} (h : (Lit.int .u16 n).wf = true) : 0 ≤ n ∧ n ≤ 65535 := by simpa [Lit.wf, IntKind.min, IntKind.max, IntKind.signed, IntKind.bits] using h
/-- an argument that is a slice of numbers of 16 bits -/
theorem open_words {H : Type} {enc : TypeId × Value → H} {W : World} {base : Nat} {sp : Nat → Bool} {held : Bool} {v : Value} {d : DataW H} {p : List MemPlace} {r : Reach} {b0 : Nat}
    (hv : Value.okWide Try.prog W r b0 40 v) (h : DataW.Trod enc Try.prog W base sp held 40 v d p) : ∃ A n c zs, v = .slice A n c ∧ Rd16 W A zs ∧ zs.length = n ∧ Wrd zs := by
  obtain ⟨fuel, hf⟩ := h
  obtain ⟨A, n, c, rfl⟩ := okWide_slice Try.underlying40 hv
  rcases open_ints Try.underlying40 Try.underlying25 cellsU16 hf with ⟨h0, _⟩ | ⟨a, len, cap, zs, h0, _, hl, _, hz, _, hc, hw⟩
  · simp [Value.cells] at h0
    obtain ⟨rfl, rfl, rfl⟩ := h0
    exact ⟨none, 0, 0, [], rfl, by simp [Rd16], rfl, by simp [Wrd]⟩
  · simp [Value.cells] at h0
    obtain ⟨rfl, rfl, rfl⟩ := h0
    have hlz : n ≤ zs.length := by rw [hz]; split <;> omega
    refine ⟨some a, n, c, zs.take n, rfl, fun j hj => ⟨a, rfl, ?_⟩, by simp; omega, fun z hz => u16_of (hw z (List.mem_of_mem_take hz))⟩
    rw [hc j (by simp at hj; omega)]
    have hj' : j < n := by simp at hj; omega
    simp [List.getD, hj']

/-- two rows of one's own in blocks of their own -/
def Sep (v u : Value) : Prop := ∀ k, v.ownBlock = some k → u.ownBlock ≠ some k
/-- one more append to the first of them -/
theorem own_two (w : World) (base : Nat) (ty : TypeId) (v u x : Value) (xs ys zs : List Int) (hv : Own w base v xs) (hu : Own w base u ys) (hs : Sep v u) (hx : Slc w x zs) (hn : xs.length + zs.length ≤ 16777216) (hbase : base ≤ w.heap.size) (W : World) (hb : Below base W w) :
    ∃ v' w', (Builtin.append_ #[22, 22] ty #[v, x]).run Try.prog w = .ok v' w' ∧ Own w' base v' (xs ++ zs) ∧ Own w' base u ys ∧ Sep v' u ∧ Below base W w' ∧ w.heap.size ≤ w'.heap.size := by
  obtain ⟨v', w', h1, h2, h3, h4⟩ := run_append_slc w base ty v x xs zs hv hx hn hbase
  have hut : u.ownBlock = none ∨ u.ownBlock ≠ v.ownBlock := by
    cases h : u.ownBlock with
    | none => exact .inl rfl
    | some k => exact .inr (fun e => hs k e.symm h)
  refine ⟨v', w', h1, h2, World.ownsRow.kept hu h3 hut, ?_, own_below hv h3 hb hbase, h3.size⟩
  intro k hk
  rcases h4 with h4 | h4
  · rw [h4] at hk
    exact hs k hk
  · intro e
    have := World.ownsRow.lt hu k e
    rw [h4] at hk
    injection hk with hk
    omega
theorem Sep.symm {v u : Value} (h : Sep v u) : Sep u v := fun k h1 h2 => h k h2 h1
theorem own_new {w : World} {base : Nat} {v : Value} {xs : List Int} (h : Own w base v xs) (o : Obj) : Own (w.alloc o) base v xs := h.keep (below_new w o)

end Go.Proofs.Ytoadligcfecpfaa
