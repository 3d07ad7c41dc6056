/-
  Numbers and bytes, without a program: the number that bytes tell, the highest one first; the bytes of a number; each from the other.
-/
import Derived.WalkKit
namespace Go.Proofs.Ytddmjenhpbbocaa
open Go.RowKit

def Byt (zs : List Int) : Prop := ∀ z ∈ zs, 0 ≤ z ∧ z ≤ 255

/-- the number that bytes tell, the highest one first -/
def num (l : List Int) : Int := l.foldl (fun a x => 256 * a + x) 0
theorem num_snoc (l : List Int) (x : Int) : num (l ++ [x]) = 256 * num l + x := by simp [num]
theorem take_next (zs : List Int) (j : Nat) (h : j < zs.length) : zs.take (j + 1) = zs.take j ++ [zs.getD j 0] := by
  rw [List.take_succ_eq_append_getElem h]
  simp [List.getD, h]
theorem num_next (zs : List Int) (j : Nat) (h : j < zs.length) : num (zs.take (j + 1)) = 256 * num (zs.take j) + zs.getD j 0 := by
  rw [take_next zs j h, num_snoc]
theorem Byt.at_ {zs : List Int} (h : Byt zs) (j : Nat) : 0 ≤ zs.getD j 0 ∧ zs.getD j 0 ≤ 255 := by
  rcases Nat.lt_or_ge j zs.length with hj | hj
  · have e : zs.getD j 0 = zs[j] := by simp [List.getD, hj]
    rw [e]
    exact h _ (List.getElem_mem hj)
  · have e : zs.getD j 0 = 0 := by simp [List.getD, List.getElem?_eq_none hj]
    omega
theorem Byt.take {zs : List Int} (h : Byt zs) (k : Nat) : Byt (zs.take k) := fun z hz => h z (List.mem_of_mem_take hz)
theorem Byt.drop {zs : List Int} (h : Byt zs) (k : Nat) : Byt (zs.drop k) := fun z hz => h z (List.mem_of_mem_drop hz)

theorem num_bound (zs : List Int) (h : Byt zs) : ∀ j, j ≤ zs.length → 0 ≤ num (zs.take j) ∧ num (zs.take j) < 256 ^ j
  | 0, _ => by simp [num]
  | j + 1, hj => by
    have ih := num_bound zs h j (by omega)
    have hx := h.at_ j
    rw [num_next zs j (by omega), Int.pow_succ]
    omega
theorem num_bound8 (zs : List Int) (h : Byt zs) (j : Nat) (hj : j ≤ zs.length) (h7 : j ≤ 7) : 0 ≤ num (zs.take j) ∧ num (zs.take j) < 72057594037927936 := by
  have hb := num_bound zs h j hj
  refine ⟨hb.1, Int.lt_of_lt_of_le hb.2 ?_⟩
  have : (256 : Nat) ^ j ≤ 256 ^ 7 := Nat.pow_le_pow_right (by omega) h7
  have e : ((256 ^ j : Nat) : Int) = (256 : Int) ^ j := by simp
  omega

/-- a byte more, as the machine reckons it -/
theorem or_step (a x : Int) (h0 : 0 ≤ a) (h1 : a < 72057594037927936) (h2 : 0 ≤ x) (h3 : x ≤ 255) : bits .or .u64 (IntKind.u64.wrap (a * 256)) (IntKind.u64.wrap x) = 256 * a + x := by
  obtain ⟨a, rfl⟩ := Int.eq_ofNat_of_zero_le h0
  obtain ⟨x, rfl⟩ := Int.eq_ofNat_of_zero_le h2
  have e1 : IntKind.u64.wrap ((a : Int) * 256) = ((a * 256 : Nat) : Int) := by rw [IntKind.wrap_u64]; omega
  have e2 : IntKind.u64.wrap (x : Int) = ((x : Nat) : Int) := by rw [IntKind.wrap_u64]; omega
  rw [e1, e2, u64_or_nat _ _ (by omega) (by omega)]
  have e3 : a * 256 ||| x = a * 256 + x := by
    have := Nat.shiftLeft_add_eq_or_of_lt (a := a) (b := x) (i := 8) (by omega)
    rw [Nat.shiftLeft_eq] at this
    simpa using this.symm
  rw [e3]
  omega

/-- the last k bytes of a number, the highest one first -/
def be (n : Int) : Nat → List Int
  | 0 => []
  | k + 1 => n / 256 ^ k % 256 :: be n k
theorem be_length (n : Int) : ∀ k, (be n k).length = k
  | 0 => rfl
  | k + 1 => by simp [be, be_length n k]
theorem be_byt (n : Int) : ∀ k, Byt (be n k)
  | 0 => by simp [Byt, be]
  | k + 1 => by
    intro z hz
    simp only [be, List.mem_cons] at hz
    rcases hz with rfl | hz
    · omega
    · exact be_byt n k z hz

end Go.Proofs.Ytddmjenhpbbocaa
