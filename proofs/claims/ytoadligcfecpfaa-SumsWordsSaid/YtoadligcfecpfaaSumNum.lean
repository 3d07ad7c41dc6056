/-
  The sum that goes round, as a number: all words added exactly, and then taken round.
  Conditions: none.
-/
import Derived.Test.YtoadligcfecpfaaNum
namespace Go.Proofs.Ytoadligcfecpfaa

/-- the words of bytes, added exactly -/
def tot : List Int → Int
  | [] => 0
  | [a] => 256 * a
  | a :: b :: r => 256 * a + b + tot r

/-- a number, taken round: 0 of 0 alone -/
def rd (n : Int) : Int := if n = 0 then 0 else (n - 1) % 65535 + 1

/-- the checksum -/
def ck (l : List Int) : Int := 65535 - rd (tot l)

theorem rd_bound (n : Int) : 0 ≤ rd n ∧ rd n ≤ 65535 := by unfold rd; split <;> omega

theorem ck_bound (l : List Int) : 0 ≤ ck l ∧ ck l ≤ 65535 := by
  have := rd_bound (tot l)
  unfold ck
  omega

theorem rd_up (n p : Int) (hn : 0 ≤ n) (hp : 0 ≤ p) (h : 65535 < rd n + p) (hp2 : p ≤ 65535) : rd n + p - 65535 = rd (n + p) := by
  unfold rd at *
  split at h <;> split <;> split <;> omega

theorem rd_low (n p : Int) (hn : 0 ≤ n) (hp : 0 ≤ p) (h : ¬ 65535 < rd n + p) : rd n + p = rd (n + p) := by
  unfold rd at *
  split at h <;> split <;> split <;> omega

theorem tot_even : ∀ (l r : List Int), l.length % 2 = 0 → tot (l ++ r) = tot l + tot r
  | [], r, _ => by simp [tot]
  | [a], r, h => by simp at h
  | a :: b :: l, r, h => by
    have := tot_even l r (by simp at h; omega)
    simp only [List.cons_append, tot, this]
    omega

/-- what a byte counts for at a place -/
def wt (i : Nat) : Int := if i % 2 = 0 then 256 else 1

theorem tot_cons : ∀ (l : List Int) (a : Int), tot (a :: l) = 256 * a + (if l = [] then 0 else l.headD 0 + tot (l.drop 1))
  | [], a => by simp [tot]
  | b :: l, a => by simp [tot]; omega

theorem tot_snoc : ∀ (l : List Int) (x : Int), tot (l ++ [x]) = tot l + wt l.length * x
  | [], x => by simp [tot, wt]
  | [a], x => by simp [tot, wt]
  | a :: b :: l, x => by
    have := tot_snoc l x
    have e : wt (a :: b :: l).length = wt l.length := by simp only [wt, List.length_cons]; congr 1; simp; omega
    simp only [List.cons_append, tot, this, e]
    omega

theorem tot_nonneg : ∀ (l : List Int), Byt l → 0 ≤ tot l
  | [], _ => by simp [tot]
  | [a], h => by have := h a (by simp); simp only [tot]; omega
  | a :: b :: l, h => by
    have h1 := h a (by simp)
    have h2 := h b (by simp)
    have := tot_nonneg l (fun z hz => h z (by simp [hz]))
    simp only [tot]
    omega

theorem tot_set : ∀ (l : List Int) (i : Nat) (y : Int), i < l.length → tot (l.set i y) = tot l + wt i * (y - l.getD i 0)
  | [], i, y, h => by simp at h
  | [a], i, y, h => by
    have : i = 0 := by simp at h; exact h
    subst this
    simp [tot, wt]
    omega
  | a :: b :: l, 0, y, _ => by simp [tot, wt]; omega
  | a :: b :: l, 1, y, _ => by simp [tot, wt]; omega
  | a :: b :: l, i + 2, y, h => by
    have := tot_set l i y (by simp at h; omega)
    have e : wt (i + 2) = wt i := by simp only [wt]; congr 1; simp
    simp only [List.set_cons_succ, tot, this, e]
    simp
    omega

theorem tot_odd : ∀ (l : List Int), l.length % 2 = 1 → tot (l ++ [0]) = tot l := fun l h => by simp [tot_snoc]

theorem tot_zeros (n : Nat) : tot (List.replicate n 0) = 0 := by
  induction n with
  | zero => rfl
  | succ n ih => rw [List.replicate_succ', tot_snoc, ih]; simp

theorem tot_append_zeros (l : List Int) (n : Nat) : tot (l ++ List.replicate n 0) = tot l := by
  induction n with
  | zero => simp
  | succ n ih => rw [List.replicate_succ', ← List.append_assoc, tot_snoc, ih]; simp

/-- the sum is 65535 just where it is a number of rounds, and not nothing -/
theorem rd_full (n : Int) (h : 0 ≤ n) : rd n = 65535 ↔ n ≠ 0 ∧ n % 65535 = 0 := by
  unfold rd
  split <;> omega

theorem tot_zero : ∀ (l : List Int), Byt l → tot l = 0 → ∀ z ∈ l, z = 0
  | [], _, _ => by simp
  | [a], h, e => by have := h a (by simp); simp only [tot] at e; simp; omega
  | a :: b :: l, h, e => by
    have h1 := h a (by simp)
    have h2 := h b (by simp)
    have hl : Byt l := fun z hz => h z (by simp [hz])
    have h3 := tot_nonneg l hl
    simp only [tot] at e
    intro z hz
    simp at hz
    rcases hz with rfl | rfl | hz
    · omega
    · omega
    · exact tot_zero l hl (by omega) z hz

/-- a byte's part of the sum -/
theorem wt_byte (i : Nat) (x : Int) (h : 0 ≤ x ∧ x ≤ 255) : 0 ≤ wt i * x ∧ wt i * x ≤ 65535 := by
  unfold wt
  split <;> omega

theorem byt_append {a b : List Int} (h : Byt a) (k : Byt b) : Byt (a ++ b) := fun z hz => (List.mem_append.1 hz).elim (h z) (k z)

end Go.Proofs.Ytoadligcfecpfaa
