/-
  Options' bytes, gone through, in plain words: they are the options, filled up; more than may be are none; cut within the last one they are none.
  Conditions: none.
-/
import Derived.Test.YthkiamkhignchaaDoorOpoP
namespace Go.Proofs.YthkiamkhignchaaDoor.Oz
set_option maxRecDepth 100000
open Go.RowKit Ops

/-- where options lie that were put one behind the other, from place p on -/
def spans : List (Int × List Int) → Nat → List Sp
  | [], _ => []
  | o :: os, p => ⟨o.1, p + 2, 8 * e8 o.2.length - 2⟩ :: spans os (p + 8 * e8 o.2.length)
theorem spans_len : ∀ (os : List (Int × List Int)) (p : Nat), (spans os p).length = os.length
  | [], _ => rfl
  | o :: os, p => by simp [spans, spans_len os]
theorem putO_cons (o : Int × List Int) (os : List (Int × List Int)) : putO (o :: os) = ob o ++ putO os := by simp [putO]
theorem ob_two (o : Int × List Int) : (ob o).getD 0 0 = o.1 ∧ (ob o).getD 1 0 = (e8 o.2.length : Int) := by simp [ob]
theorem getD_mid (pre xs ys : List Int) (i : Nat) (h : i < xs.length) : (pre ++ (xs ++ ys)).getD (pre.length + i) 0 = xs.getD i 0 := by
  simp only [List.getD]
  rw [List.getElem?_append_right (by omega), Nat.add_sub_cancel_left, List.getElem?_append_left h]
theorem at_put (pre : List Int) (o : Int × List Int) (ys : List Int) : (pre ++ (ob o ++ ys)).getD pre.length 0 = o.1 ∧ eightsAt (pre ++ (ob o ++ ys)) pre.length = e8 o.2.length := by
  have h := ob_len o
  have h8 := e8_pos o.2.length
  obtain ⟨h0, h1⟩ := ob_two o
  have g0 := getD_mid pre (ob o) ys 0 (by omega)
  have g1 := getD_mid pre (ob o) ys 1 (by omega)
  rw [Nat.add_zero] at g0
  refine ⟨by rw [g0, h0], ?_⟩
  unfold eightsAt
  rw [g1, h1]
  omega
theorem goes_put : ∀ (os : List (Int × List Int)) (pre : List Int) (acc : List Sp), acc.length + os.length ≤ 64 → goes (pre ++ putO os) pre.length acc = some (acc ++ spans os pre.length)
  | [], pre, acc, _ => by
    rw [goes_end (by simp [putO])]
    simp [spans]
  | o :: os, pre, acc, h => by
    have hl := ob_len o
    have h8 := e8_pos o.2.length
    obtain ⟨a0, a1⟩ := at_put pre o (putO os)
    rw [putO_cons]
    simp only [List.length_cons] at h
    have hlen : (pre ++ (ob o ++ putO os)).length = pre.length + 8 * e8 o.2.length + (putO os).length := by simp [hl]; omega
    rw [goes_next (by omega) (by unfold Wrong; rw [a1]; omega), a0, a1]
    have ih := goes_put os (pre ++ ob o) (acc ++ [⟨o.1, pre.length + 2, 8 * e8 o.2.length - 2⟩]) (by simp; omega)
    rw [List.append_assoc, List.length_append, hl] at ih
    rw [ih]
    simp [spans]
theorem goes_many : ∀ (os : List (Int × List Int)) (pre : List Int) (acc : List Sp), 64 < acc.length + os.length → acc.length ≤ 64 → goes (pre ++ putO os) pre.length acc = none
  | [], pre, acc, h, h2 => by simp at h; omega
  | o :: os, pre, acc, h, h2 => by
    have hl := ob_len o
    have h8 := e8_pos o.2.length
    obtain ⟨a0, a1⟩ := at_put pre o (putO os)
    rw [putO_cons]
    simp only [List.length_cons] at h
    have hlen : (pre ++ (ob o ++ putO os)).length = pre.length + 8 * e8 o.2.length + (putO os).length := by simp [hl]; omega
    by_cases hw : Wrong (pre ++ (ob o ++ putO os)) pre.length acc.length
    · exact goes_wrong (by omega) hw
    rw [goes_next (by omega) hw, a0, a1]
    have hacc : acc.length < 64 := by unfold Wrong at hw; omega
    have ih := goes_many os (pre ++ ob o) (acc ++ [⟨o.1, pre.length + 2, 8 * e8 o.2.length - 2⟩]) (by simp; omega) (by simp; omega)
    rw [List.append_assoc, List.length_append, hl] at ih
    exact ih
/-- how many bytes the last one has -/
def lastN (os : List (Int × List Int)) : Nat := match os.getLast? with
  | none => 0
  | some o => 8 * e8 o.2.length
theorem lastN_cons (a b : Int × List Int) (l : List (Int × List Int)) : lastN (a :: b :: l) = lastN (b :: l) := by
  unfold lastN
  rw [List.getLast?_cons_cons]
theorem last_le : ∀ (l : List (Int × List Int)), lastN l ≤ sizeO l
  | [] => by simp [lastN]
  | [a] => by simp [lastN, sizeO, putO, ob_len]
  | a :: b :: l => by
    rw [lastN_cons]
    have h1 := last_le (b :: l)
    have : sizeO (a :: b :: l) = (ob a).length + sizeO (b :: l) := by unfold sizeO; rw [putO_cons, List.length_append]
    omega
theorem eights_take (pre : List Int) (o : Int × List Int) (ys : List Int) (q : Nat) (h : pre.length + 2 ≤ q) : ((pre ++ (ob o ++ ys)).take q).getD pre.length 0 = o.1 ∧ eightsAt ((pre ++ (ob o ++ ys)).take q) pre.length = e8 o.2.length := by
  obtain ⟨a0, a1⟩ := at_put pre o ys
  have g : ∀ i, i < q → ((pre ++ (ob o ++ ys)).take q).getD i 0 = (pre ++ (ob o ++ ys)).getD i 0 := fun i hi => by simp [List.getD, hi]
  refine ⟨by rw [g _ (by omega), a0], ?_⟩
  rw [← a1]
  unfold eightsAt
  rw [g _ (by omega)]
theorem goes_cut : ∀ (os : List (Int × List Int)) (pre : List Int) (acc : List Sp) (q : Nat), q < pre.length + sizeO os → pre.length + sizeO os < q + lastN os → goes ((pre ++ putO os).take q) pre.length acc = none
  | [], pre, acc, q, h1, h2 => by simp [sizeO, putO, lastN] at h1 h2; omega
  | o :: os, pre, acc, q, h1, h2 => by
    have hl := ob_len o
    have h8 := e8_pos o.2.length
    have hs : sizeO (o :: os) = 8 * e8 o.2.length + sizeO os := by unfold sizeO; rw [putO_cons, List.length_append, hl]
    rw [putO_cons]
    have hlen : ((pre ++ (ob o ++ putO os)).take q).length = q := by
      rw [List.length_take, List.length_append, List.length_append, hl]
      unfold sizeO at hs h1
      omega
    have hpq : pre.length < q := by
      cases os with
      | nil => simp [lastN] at h2; rw [hs] at h2; simp [sizeO, putO] at h2; omega
      | cons o2 os2 =>
        have h3 : lastN (o :: o2 :: os2) ≤ sizeO (o2 :: os2) := by
          rw [lastN_cons]
          exact last_le _
        omega
    by_cases hw : Wrong ((pre ++ (ob o ++ putO os)).take q) pre.length acc.length
    · exact goes_wrong (by omega) hw
    have hq2 : pre.length + 2 ≤ q := by unfold Wrong at hw; omega
    obtain ⟨a0, a1⟩ := eights_take pre o (putO os) q hq2
    have hq8 : pre.length + 8 * e8 o.2.length ≤ q := by unfold Wrong at hw; rw [a1] at hw; omega
    rw [goes_next (by omega) hw, a0, a1]
    have hne : os ≠ [] := fun e => by
      subst e
      rw [hs] at h1
      simp [sizeO, putO] at h1
      omega
    have hll : lastN (o :: os) = lastN os := by
      obtain ⟨b, l, rfl⟩ := List.exists_cons_of_ne_nil hne
      exact lastN_cons _ _ _
    have ih := goes_cut os (pre ++ ob o) (acc ++ [⟨o.1, pre.length + 2, 8 * e8 o.2.length - 2⟩]) q (by rw [List.length_append, hl]; omega) (by rw [List.length_append, hl]; omega)
    rw [List.append_assoc, List.length_append, hl] at ih
    exact ih

end Go.Proofs.YthkiamkhignchaaDoor.Oz
