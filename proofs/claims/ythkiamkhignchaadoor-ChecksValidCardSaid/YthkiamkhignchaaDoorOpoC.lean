/-
  A cutter of octets beside a list of options that grows: what each call answers; and what options bytes hold, in plain words.
  Conditions: the cutter, and the bytes that it cuts, lie in two blocks that are known whole.
-/
import Derived.Test.YthkiamkhignchaaDoorOpoM
namespace Go.Proofs.YthkiamkhignchaaDoor.Oz
set_option maxRecDepth 100000
open Go.RowKit Ops

section
variable {w0 w : World} {L : List Blk} {base : Nat} {v : Value} {l : List El} {i g b o r : Nat} {t : TypeId} {zs : List Int}
end

/-! ### what bytes hold -/
/-- an option among bytes: its kind, where its data begin, and how many bytes these are -/
structure Sp where
  k : Int
  o : Nat
  n : Nat
/-- how many eights are told at place p -/
def eightsAt (zs : List Int) (p : Nat) : Nat := (zs.getD (p + 1) 0).toNat
/-- is there no option at place p? -/
def Wrong (zs : List Int) (p many : Nat) : Prop := zs.length < p + 2 ∨ eightsAt zs p = 0 ∨ zs.length < p + 8 * eightsAt zs p ∨ 64 ≤ many
instance (zs : List Int) (p many : Nat) : Decidable (Wrong zs p many) := by unfold Wrong; infer_instance
/-- the options from place p on, behind those that were found -/
def goes (zs : List Int) (p : Nat) (acc : List Sp) : Option (List Sp) :=
  if zs.length ≤ p then some acc
  else if Wrong zs p acc.length then none
  else if _ : 0 < eightsAt zs p then goes zs (p + 8 * eightsAt zs p) (acc ++ [⟨zs.getD p 0, p + 2, 8 * eightsAt zs p - 2⟩])
  else none
termination_by zs.length - p
decreasing_by omega
theorem goes_end {zs : List Int} {p : Nat} {acc : List Sp} (h : zs.length ≤ p) : goes zs p acc = some acc := by rw [goes, if_pos h]
theorem goes_wrong {zs : List Int} {p : Nat} {acc : List Sp} (h : p < zs.length) (hw : Wrong zs p acc.length) : goes zs p acc = none := by rw [goes, if_neg (by omega), if_pos hw]
theorem goes_next {zs : List Int} {p : Nat} {acc : List Sp} (h : p < zs.length) (hw : ¬ Wrong zs p acc.length) : goes zs p acc = goes zs (p + 8 * eightsAt zs p) (acc ++ [⟨zs.getD p 0, p + 2, 8 * eightsAt zs p - 2⟩]) := by
  have hk : 0 < eightsAt zs p := by
    unfold Wrong at hw
    omega
  rw [goes, if_neg (by omega), if_neg hw, dif_pos hk]
/-- options that lie one behind the other among bytes -/
def Lie (zs : List Int) (p : Nat) (acc : List Sp) : Prop := (∀ x ∈ acc, 2 ≤ x.o ∧ 6 ≤ x.n ∧ x.o + x.n ≤ p ∧ x.o + x.n ≤ zs.length ∧ 0 ≤ x.k ∧ x.k ≤ 255) ∧ (∀ (i j : Nat) (x y : Sp), acc[i]? = some x → acc[j]? = some y → i < j → x.o + x.n ≤ y.o) ∧ acc.length ≤ 64
theorem lie_nil (zs : List Int) : Lie zs 0 [] := ⟨fun x h => by simp at h, fun i j x y h => by simp at h, by simp⟩
theorem lie_next {zs : List Int} {p : Nat} {acc : List Sp} (hz : Byt zs) (hL : Lie zs p acc) (hw : ¬ Wrong zs p acc.length) : Lie zs (p + 8 * eightsAt zs p) (acc ++ [⟨zs.getD p 0, p + 2, 8 * eightsAt zs p - 2⟩]) := by
  unfold Wrong at hw
  obtain ⟨h1, h2, h3⟩ := hL
  have hb := hz.at_ p
  refine ⟨fun x hx => ?_, fun i j x y hi hj hij => ?_, by simp; omega⟩
  · rcases List.mem_append.1 hx with hx | hx
    · have := h1 x hx; omega
    · rw [List.mem_singleton] at hx; subst hx; simp only; omega
  · have hjl : j < acc.length + 1 := by
      have := (List.getElem?_eq_some_iff.1 hj).1
      simpa using this
    rw [List.getElem?_append_left (by omega)] at hi
    by_cases hj' : j < acc.length
    · rw [List.getElem?_append_left hj'] at hj
      exact h2 i j x y hi hj hij
    · obtain rfl : j = acc.length := by omega
      rw [List.getElem?_append_right (Nat.le_refl _), Nat.sub_self] at hj
      simp at hj
      subst hj
      have := h1 x (List.mem_of_getElem? hi)
      simp only
      omega
theorem goes_lie {zs : List Int} (hz : Byt zs) : ∀ (m p : Nat) (acc ds : List Sp), zs.length - p ≤ m → Lie zs p acc → goes zs p acc = some ds → Lie zs zs.length ds := by
  intro m
  induction m with
  | zero =>
    intro p acc ds hm hL h
    rw [goes_end (by omega)] at h
    injection h with h
    subst h
    exact ⟨fun x hx => by have := hL.1 x hx; omega, hL.2.1, hL.2.2⟩
  | succ m ih =>
    intro p acc ds hm hL h
    by_cases hp : zs.length ≤ p
    · rw [goes_end hp] at h
      injection h with h
      subst h
      exact ⟨fun x hx => by have := hL.1 x hx; omega, hL.2.1, hL.2.2⟩
    · by_cases hw : Wrong zs p acc.length
      · rw [goes_wrong (by omega) hw] at h; cases h
      · rw [goes_next (by omega) hw] at h
        refine ih _ _ _ ?_ (lie_next hz hL hw) h
        unfold Wrong at hw
        omega
/-- what they are, in plain words -/
def plain (zs : List Int) (ds : List Sp) : List (Int × List Int) := ds.map fun x => (x.k, (zs.drop x.o).take x.n)

end Go.Proofs.YthkiamkhignchaaDoor.Oz
