/-
  great: more than 2000 acts and words together? Told, and nothing else is done.
  Conditions: the list of acts can be read.
-/
import Derived.Test.YtmjpmagfbiocnaaDrwO
namespace Go.Proofs.Ytmjpmagfbiocnaa.W32
open Go.RowKit

/-- acts and words together -/
def tot : List Deed → Nat
  | [] => 0
  | x :: l => 1 + x.zs.length + tot l
theorem tot_append : ∀ (a b : List Deed), tot (a ++ b) = tot a + tot b
  | [], b => by simp [tot]
  | x :: a, b => by
    have := tot_append a b
    simp only [List.cons_append, tot]
    omega
theorem tot_next (l : List Deed) (j : Nat) (h : j < l.length) : tot (l.take (j + 1)) = tot (l.take j) + 1 + (l.getD j default).zs.length := by
  have e : l.take (j + 1) = l.take j ++ [l.getD j default] := by
    rw [List.take_add_one]
    simp [List.getD, h]
  rw [e, tot_append]
  simp only [tot]
  omega
theorem tot_le (l : List Deed) (j : Nat) : tot (l.take j) ≤ tot l := by
  have := tot_append (l.take j) (l.drop j)
  rw [List.take_append_drop] at this
  omega
theorem tot_length (l : List Deed) : l.length ≤ tot l := by
  induction l with
  | nil => simp
  | cons x l ih => simp only [List.length_cons, tot]; omega
theorem tot_one (l : List Deed) (j : Nat) (h : j < l.length) : (l.getD j default).zs.length < tot l := by
  have h1 := tot_next l j h
  have h2 := tot_le l (j + 1)
  omega

/-- great's answer -/
def Told (w : World) (l : List Deed) (e : Ending) (w' : World) : Prop := ∃ b, e = .returned (.bool b) ∧ w = w' ∧ (b = false → tot l ≤ 2000)

set_option maxRecDepth 20000 in
set_option maxHeartbeats 1000000 in
theorem great_any (A : Option Addr) (n c : Nat) (l : List Deed) (w : World) (hl : l.length = n) (hn : n ≤ 140737488351232) (h : Deeds w A l) :
    Calls Try.prog 7 #[.slice A n c] w (Told w l) := by
  have H := veil h
  have HL := veil hl
  clear h hl
  go_enter Try.func7, Try.ntmps7
  go_wp2_with fail
  go_loopw [3, 4] (fun m i wr => ∃ j t : Nat, j ≤ n ∧ i = .int .i64 j ∧ m = .int .i64 t ∧ wr = w ∧ Hid (t = tot (l.take j)) ∧ t ≤ 40000000000000) (fun _ i _ => n - (intOf i).toNat)
  case atStart => exact ⟨0, 0, Nat.zero_le _, rfl, rfl, rfl, rfl, by omega⟩
  case round =>
    obtain ⟨j, t, hj, rfl, rfl, rfl, ht, hu⟩ := hrel
    by_cases hlt : j < n
    · by_cases h5 : t < 5000
      · obtain ⟨a, rfl, hx⟩ := H.out j (by rw [HL.out]; exact hlt)
        have hT := veil (tot_next l j (by rw [HL.out]; exact hlt))
        have h1 := hx.c1
        have h6 : (t : Int) < 5000 := by omega
        clear h5
        have hm := hx.max
        clear hx
        generalize (l.getD j default).zs.length = u at *
        go_wp2_with fail
        go_roundw
        case rel => exact ⟨j + 1, t + 1 + u, by omega, by go_num, by go_num, trivial, by show _ = _; rw [hT.out, ← ht.out], by omega⟩
        case measure => simp [intOf]; omega
      · have h6 : ¬ ((t : Int) < 5000) := by omega
        have h7 : (2000 : Int) < t := by omega
        go_wp2_with fail
        go_ret
        exact ⟨_, rfl, rfl, fun e => by simp at e⟩
    · have e : j = n := by omega
      have hd : tot (l.take j) = tot l := by rw [List.take_of_length_le (by rw [HL.out]; omega)]
      rw [← ht.out] at hd
      have HD := veil hd
      clear hd
      go_wp2_with fail
      go_ret
      exact ⟨_, rfl, rfl, fun e => by rw [← HD.out]; simp at e; omega⟩

end Go.Proofs.Ytmjpmagfbiocnaa.W32
