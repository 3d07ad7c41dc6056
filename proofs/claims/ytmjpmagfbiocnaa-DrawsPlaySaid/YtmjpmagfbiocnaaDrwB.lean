/-
  What draws' Next and Below answer, whatever waits.
  Conditions: words lie in a block of their own.
-/
import Derived.Test.YtmjpmagfbiocnaaDrwA
namespace Go.Proofs.Ytmjpmagfbiocnaa.W32
open Go.RowKit

theorem next_nil (w : World) : Calls Try.prog 14 #[.pointer none] w fun e w' => e = .returned (.int .u32 0) ∧ w = w' := by
  go_enter Try.func14, Try.ntmps14
  go_wp2_with fail
  refine (len_nil w).mono ?_
  rintro e w1 ⟨rfl, rfl⟩
  go_wp2_with fail
  go_ret
  exact ⟨rfl, rfl⟩

theorem next_raw {w : World} {g : Nat} (h : Raw w g) : Calls Try.prog 14 #[.pointer (some ⟨g, 0, none⟩)] w fun e w' => e = .returned (.int .u32 0) ∧ w = w' := by
  have H := veil h
  clear h
  go_enter Try.func14, Try.ntmps14
  go_wp2_with fail
  refine (len_raw H.out).mono ?_
  rintro e w1 ⟨rfl, rfl⟩
  go_wp2_with fail
  go_ret
  exact ⟨rfl, rfl⟩

theorem next_none {w : World} {g : Nat} (h : Wd w g []) : Calls Try.prog 14 #[.pointer (some ⟨g, 0, none⟩)] w fun e w' => e = .returned (.int .u32 0) ∧ w = w' := by
  have H := veil h
  clear h
  go_enter Try.func14, Try.ntmps14
  go_wp2_with fail
  refine (len_any H.out).mono ?_
  rintro e w1 ⟨rfl, rfl⟩
  go_wp2_with fail
  go_ret
  exact ⟨rfl, rfl⟩

theorem next_cl {w : World} {g : Nat} {R : List Int} {f c : Nat} (h : Cl w g R f (c + 1) true) (hf : f < 256) (hc : c < 256) : Calls Try.prog 14 #[.pointer (some ⟨g, 0, none⟩)] w
    fun e w' => e = .returned (.int .u32 (R.getD f 0)) ∧ Cl w' g R ((f + 1) % 256) c true ∧ w.grownBy w' (some g) := by
  have h0 := h.cf
  have h1 := h.at_ f hf
  have h2 := h.cc
  have h3 := h.fr 256
  have h4 := h.fr 257
  have h5 := len_cl h
  have hm : Hid (((f : Int) + 1) % 256 = (((f + 1) % 256 : Nat) : Int)) := by show _ = _; omega
  have H := veil h
  clear h
  go_enter Try.func14, Try.ntmps14
  go_wp2_with fail
  refine (h5).mono ?_
  rintro e w1 ⟨rfl, rfl⟩
  go_wp2_with fail
  go_quiet (fail)
  go_wp2_with fail
  go_ret
  rw [hm.out]
  have H0 : Cl (w.drewN nq) g R f (c + 1) true := H.out
  exact ⟨by simp [List.getD], (H0.first _).count c, gb_trans (gb_still ⟨nq, rfl⟩ _) (gb_trans (gb_set _ g 256 _) (gb_set _ g 257 _))⟩

theorem Wd.byt {w : World} {g : Nat} {q : List Int} (h : Wd w g q) : Byt q := by
  obtain ⟨R, f, h1, _, _, h2⟩ := h
  intro z hz
  obtain ⟨i, hi, rfl⟩ := List.mem_iff_getElem.1 hz
  have e := h2 i hi
  have : q[i] = q.getD i 0 := by simp [List.getD, hi]
  rw [this, ← e]
  exact h1.2.2.at_ _

theorem next_any {w : World} {g : Nat} {q : List Int} (h : Wd w g q) : Calls Try.prog 14 #[.pointer (some ⟨g, 0, none⟩)] w
    fun e w' => e = .returned (.int .u32 (q.headD 0)) ∧ Wd w' g q.tail ∧ w.grownBy w' (some g) := by
  match q, h with
  | [], h =>
    refine (next_none h).mono ?_
    rintro e w1 ⟨rfl, rfl⟩
    exact ⟨rfl, h, World.grownBy.refl _ _⟩
  | x :: t, h =>
    obtain ⟨R, f, h1, h2, h3, h4⟩ := h
    simp only [List.length_cons] at h1 h3 h4
    refine (next_cl h1 h2 (by omega)).mono ?_
    rintro e w1 ⟨rfl, k1, k2⟩
    have e0 := h4 0 (by omega)
    rw [show (f + 0) % 256 = f by omega] at e0
    refine ⟨by rw [e0]; rfl, ⟨R, _, k1, by omega, by simp only [List.tail_cons]; omega, ?_⟩, k2⟩
    intro i hi
    simp only [List.tail_cons] at hi ⊢
    have e1 := h4 (i + 1) (by omega)
    rw [show ((f + 1) % 256 + i) % 256 = (f + (i + 1)) % 256 by omega, e1]
    simp

/-- a word taken as a number below n -/
def low (x n : Int) : Int := x * n / 4294967296

theorem low_u {x n : Int} (hx : 0 ≤ x ∧ x ≤ 4294967295) (hn : 0 ≤ n ∧ n ≤ 4294967295) : 0 ≤ x * n ∧ x * n ≤ 18446744065119617025 := by
  refine ⟨Int.mul_nonneg hx.1 hn.1, ?_⟩
  have := Int.mul_le_mul hx.2 hn.2 hn.1 (by omega : (0 : Int) ≤ 4294967295)
  omega

theorem below_of {w : World} {v : Value} {x n : Int} {P : World → Prop} (hn : 0 ≤ n ∧ n ≤ 4294967295) (hx : 0 ≤ x ∧ x ≤ 4294967295) (hc : Calls Try.prog 14 #[v] w fun e w' => e = .returned (.int .u32 x) ∧ P w') :
    Calls Try.prog 16 #[v, .int .u32 n] w fun e w' => e = .returned (.int .u32 (low x n)) ∧ P w' := by
  have hm := low_u hx hn
  have m0 := hm.1
  have m1 := hm.2
  have n0 := hn.1
  have n1 := hn.2
  have x0 := hx.1
  have x1 := hx.2
  have HC := veil hc
  clear hm hn hx hc
  go_enter Try.func16, Try.ntmps16
  go_wp2_with fail
  refine (HC.out).mono ?_
  rintro e w1 ⟨rfl, h1⟩
  have H1 := veil h1
  clear h1
  go_wp2_with fail
  go_ret
  exact ⟨rfl, H1.out⟩

theorem below_nil (n : Int) (hn : 0 ≤ n ∧ n ≤ 4294967295) (w : World) : Calls Try.prog 16 #[.pointer none, .int .u32 n] w fun e w' => e = .returned (.int .u32 0) ∧ w = w' := by
  have h := below_of hn ⟨Int.le_refl 0, by omega⟩ (next_nil w)
  rwa [show low 0 n = 0 by simp [low]] at h
theorem below_raw {w : World} {g : Nat} (n : Int) (hn : 0 ≤ n ∧ n ≤ 4294967295) (h : Raw w g) : Calls Try.prog 16 #[.pointer (some ⟨g, 0, none⟩), .int .u32 n] w fun e w' => e = .returned (.int .u32 0) ∧ w = w' := by
  have h := below_of hn ⟨Int.le_refl 0, by omega⟩ (next_raw h)
  rwa [show low 0 n = 0 by simp [low]] at h
theorem head_u {q : List Int} (h : Byt q) : 0 ≤ q.headD 0 ∧ q.headD 0 ≤ 4294967295 := by
  cases q with
  | nil => exact ⟨Int.le_refl 0, by simp⟩
  | cons x t => exact h x (by simp)
theorem below_any {w : World} {g : Nat} {q : List Int} (n : Int) (hn : 0 ≤ n ∧ n ≤ 4294967295) (h : Wd w g q) : Calls Try.prog 16 #[.pointer (some ⟨g, 0, none⟩), .int .u32 n] w
    fun e w' => e = .returned (.int .u32 (low (q.headD 0) n)) ∧ Wd w' g q.tail ∧ w.grownBy w' (some g) := below_of hn (head_u h.byt) (next_any h)

end Go.Proofs.Ytmjpmagfbiocnaa.W32
