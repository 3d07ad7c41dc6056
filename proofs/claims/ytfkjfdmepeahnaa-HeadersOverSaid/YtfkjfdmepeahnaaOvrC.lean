/-
  Headers that are passed: what the chain tells behind them.
  Conditions: none.
-/
import Derived.Test.YtfkjfdmepeahnaaHdrW
namespace Go.Proofs.Ytfkjfdmepeahnaa.Hd
set_option maxRecDepth 100000

/-- whatever way one comes to these bytes, with that number, the chain ends so -/
def Passes (mc : Bool) (R : Tl) (first : Int) (bs : List Int) : Prop := ∀ p told f, walk first bs p told f mc false = R
theorem passes_end {mc : Bool} {nx : Int} {rs : List Int} (h : ¬ (nx = 0 ∨ nx = 43 ∨ nx = 44 ∨ nx = 59 ∨ nx = 60)) : Passes mc { last := nx, rest := rs } nx rs := fun p told f => by
  rw [walk, if_neg (by omega), if_neg (by omega), if_neg (by omega), if_neg (by omega)]
theorem hdr_eq {lg m : Nat} {a c d : Int} (ht : m + 4 = 8 * (lg + 1)) (bs : List Int) (least : Nat) (hl : least ≤ 4) : hdr ([a, (lg : Int), c, d] ++ List.replicate m 0 ++ bs) least = 8 * (lg + 1) := by
  unfold hdr
  have e : (([a, (lg : Int), c, d] ++ List.replicate m 0 ++ bs).getD 1 0).toNat = lg := by simp
  rw [e, if_neg]
  simp
  omega
theorem passes_opt {mc : Bool} {R : Tl} {first : Int} {bs : List Int} (h : Passes mc R first bs) (lg m : Nat) (k : Int) (hk : k = 1 ∨ k = 30) (ht : m + 4 = 8 * (lg + 1)) :
    Passes mc R 60 ([first, (lg : Int), k, (m : Int)] ++ List.replicate m 0 ++ bs) := fun p told f => by
  have hh := hdr_eq (a := first) (c := k) (d := (m : Int)) ht bs 2 (by omega)
  rw [walk, if_pos (by omega), if_neg (by omega), dif_neg (by rw [hh]; omega), hh]
  have ht2 : ([first, (lg : Int), k, (m : Int)] ++ List.replicate m 0 ++ bs).take (8 * (lg + 1)) = [first, (lg : Int), k, (m : Int)] ++ List.replicate m 0 := List.take_left' (by simp; omega)
  have hd2 : ([first, (lg : Int), k, (m : Int)] ++ List.replicate m 0 ++ bs).drop (8 * (lg + 1)) = bs := List.drop_left' (by simp; omega)
  have ho : opts ([first, (lg : Int), k, (m : Int)] ++ List.replicate m 0) p (decide ((60 : Int) = 0)) mc 2 false = {} := by
    have g2 : ([first, (lg : Int), k, (m : Int)] ++ List.replicate m 0).getD 2 0 = k := by simp
    have g3 : ([first, (lg : Int), k, (m : Int)] ++ List.replicate m 0).getD (2 + 1) 0 = (m : Int) := by simp
    have gl : ([first, (lg : Int), k, (m : Int)] ++ List.replicate m 0).length = m + 4 := by simp
    rw [opts, g2, g3, gl, if_neg (by omega), if_neg (by omega), if_neg (by omega), if_neg (by simp; omega)]
    have he : opts ([first, (lg : Int), k, (m : Int)] ++ List.replicate m 0) p (decide ((60 : Int) = 0)) mc (2 + 2 + ((m : Int)).toNat) false = {} := by
      rw [opts, gl, if_pos (by simp; omega)]
    rcases hk with rfl | rfl
    · rw [if_pos rfl]
      exact he
    · rw [if_neg (by omega), if_neg (by simp), if_pos (by omega)]
      exact he
  rw [ht2, ho, hd2]
  have g0 : ([first, (lg : Int), k, (m : Int)] ++ List.replicate m 0 ++ bs).getD 0 0 = first := by simp
  rw [g0]
  exact h _ _ _
theorem passes_route {mc : Bool} {R : Tl} {first : Int} {bs : List Int} (h : Passes mc R first bs) (lg m : Nat) (ht : m + 4 = 8 * (lg + 1)) :
    Passes mc R 43 ([first, (lg : Int), 0, 0] ++ List.replicate m 0 ++ bs) := fun p told f => by
  have hh := hdr_eq (a := first) (c := 0) (d := 0) ht bs 4 (by omega)
  rw [walk, if_neg (by omega), if_pos rfl, dif_neg (by rw [hh]; omega), hh]
  have hd2 : ([first, (lg : Int), 0, 0] ++ List.replicate m 0 ++ bs).drop (8 * (lg + 1)) = bs := List.drop_left' (by simp; omega)
  have g0 : ([first, (lg : Int), 0, 0] ++ List.replicate m 0 ++ bs).getD 0 0 = first := by simp
  have g3 : ([first, (lg : Int), 0, 0] ++ List.replicate m 0 ++ bs).getD 3 0 = 0 := by simp
  rw [g3, if_neg (by omega), hd2, g0]
  exact h _ _ _
theorem passes_part {mc : Bool} {R : Tl} {first : Int} {bs : List Int} (h : Passes mc R first bs) (x : Int) : Passes mc R 44 ([first, 0, 0, 0, 1, 2, 3, x] ++ bs) := fun p told f => by
  rw [walk, if_neg (by omega), if_neg (by omega), if_pos rfl, if_neg (by simp)]
  have hf : (fragOf ([first, 0, 0, 0, 1, 2, 3, x] ++ bs)).off = 0 ∧ (fragOf ([first, 0, 0, 0, 1, 2, 3, x] ++ bs)).more = false := by
    simp [fragOf, num]
  rw [if_pos hf]
  have g0 : ([first, 0, 0, 0, 1, 2, 3, x] ++ bs).getD 0 0 = first := by simp
  have hd2 : ([first, 0, 0, 0, 1, 2, 3, x] ++ bs).drop 8 = bs := rfl
  rw [g0, hd2]
  exact h _ _ _

end Go.Proofs.Ytfkjfdmepeahnaa.Hd
