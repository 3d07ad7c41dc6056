/-
  An option, of whatever kind, behind padding, in a header for the end, and in one for each hop: what the chain tells.
  Conditions: none.
-/
import Derived.Test.YtfkjfdmepeahnaaHdrP
namespace Go.Proofs.Ytfkjfdmepeahnaa.Hd
set_option maxRecDepth 100000
def hB (kd : Int) (n : Nat) : List Int := [17, 0] ++ List.replicate n 0 ++ [kd, ((4 - n : Nat) : Int)] ++ List.replicate (4 - n) 0
/-- which kind of option it is -/
def Cls (kd : Int) (n : Nat) (mc : Bool) (l c1 q1 er : Int) (al2 : Bool) : Prop :=
  (kd < 64 ∧ l = 17 ∧ c1 = 0 ∧ q1 = 0 ∧ er = 0 ∧ al2 = decide (kd = 5 ∧ n = 2)) ∨ (64 ≤ kd ∧ (kd < 128 ∨ (192 ≤ kd ∧ mc = true)) ∧ l = 0 ∧ c1 = 0 ∧ q1 = 0 ∧ er = 8 ∧ al2 = false) ∨
  (128 ≤ kd ∧ (kd < 192 ∨ mc = false) ∧ l = 0 ∧ c1 = 2 ∧ q1 = 74 + n ∧ er = 7 ∧ al2 = false)
set_option linter.unusedSimpArgs false in
theorem opt_cls (kd : Int) (n : Nat) (mc : Bool) (hk : 0 ≤ kd ∧ kd ≤ 255) (hn : n ≤ 3) : ∃ l c1 q1 er al2 q2, Cls kd n mc l c1 q1 er al2 ∧ chain 60 (hB kd n) 72 mc = { last := l, code := c1, place := q1, e := er } ∧ chain 0 (hB kd n) 40 mc = { last := l, alert := al2, code := c1, place := q2, e := er } := by
  rcases (by omega : kd = 0 ∨ kd = 1 ∨ kd = 5 ∨ (kd ≠ 0 ∧ kd ≠ 1 ∧ kd ≠ 5 ∧ kd < 64) ∨ (64 ≤ kd ∧ kd < 128) ∨ (128 ≤ kd ∧ kd < 192) ∨ 192 ≤ kd) with h | h | h | ⟨h0, h1, h5, h⟩ | ⟨h0, h1⟩ | ⟨h0, h1⟩ | h
  · subst h
    refine ⟨17, 0, 0, 0, _, 0, .inl ⟨by omega, rfl, rfl, rfl, rfl, rfl⟩, ?_, ?_⟩ <;> rcases (by omega : n = 0 ∨ n = 1 ∨ n = 2 ∨ n = 3) with rfl | rfl | rfl | rfl <;> simp [hB, chain, walk, hdr, opts, List.replicate]
  · subst h
    refine ⟨17, 0, 0, 0, _, 0, .inl ⟨by omega, rfl, rfl, rfl, rfl, rfl⟩, ?_, ?_⟩ <;> rcases (by omega : n = 0 ∨ n = 1 ∨ n = 2 ∨ n = 3) with rfl | rfl | rfl | rfl <;> simp [hB, chain, walk, hdr, opts, List.replicate]
  · subst h
    refine ⟨17, 0, 0, 0, _, 0, .inl ⟨by omega, rfl, rfl, rfl, rfl, rfl⟩, ?_, ?_⟩ <;> rcases (by omega : n = 0 ∨ n = 1 ∨ n = 2 ∨ n = 3) with rfl | rfl | rfl | rfl <;> simp [hB, chain, walk, hdr, opts, List.replicate]
  · refine ⟨17, 0, 0, 0, _, 0, .inl ⟨by omega, rfl, rfl, rfl, rfl, rfl⟩, ?_, ?_⟩ <;> rcases (by omega : n = 0 ∨ n = 1 ∨ n = 2 ∨ n = 3) with rfl | rfl | rfl | rfl <;> simp [hB, chain, walk, hdr, opts, List.replicate, h0, h1, h5, h]
  · have e1 : ¬ kd < 64 := by omega
    have e2 : ¬ kd = 0 := by omega
    have e3 : ¬ kd = 1 := by omega
    have e5 : ¬ kd = 5 := by omega
    refine ⟨0, 0, 0, 8, _, 0, .inr (.inl ⟨by omega, .inl h1, rfl, rfl, rfl, rfl, rfl⟩), ?_, ?_⟩ <;> rcases (by omega : n = 0 ∨ n = 1 ∨ n = 2 ∨ n = 3) with rfl | rfl | rfl | rfl <;> simp [hB, chain, walk, hdr, opts, List.replicate, errT, e1, e2, e3, e5, h1]
  · have e1 : ¬ kd < 64 := by omega
    have e2 : ¬ kd = 0 := by omega
    have e3 : ¬ kd = 1 := by omega
    have e5 : ¬ kd = 5 := by omega
    have e6 : ¬ kd < 128 := by omega
    have e7 : ¬ 192 ≤ kd := by omega
    refine ⟨0, 2, 74 + n, 7, _, 42 + n, .inr (.inr ⟨by omega, .inl h1, rfl, rfl, rfl, rfl, rfl⟩), ?_, ?_⟩ <;> rcases (by omega : n = 0 ∨ n = 1 ∨ n = 2 ∨ n = 3) with rfl | rfl | rfl | rfl <;> simp [hB, chain, walk, hdr, opts, List.replicate, faulT, e1, e2, e3, e5, e6, e7]
  · have e1 : ¬ kd < 64 := by omega
    have e2 : ¬ kd = 0 := by omega
    have e3 : ¬ kd = 1 := by omega
    have e5 : ¬ kd = 5 := by omega
    have e6 : ¬ kd < 128 := by omega
    cases mc with
    | true => refine ⟨0, 0, 0, 8, _, 0, .inr (.inl ⟨by omega, .inr ⟨h, rfl⟩, rfl, rfl, rfl, rfl, rfl⟩), ?_, ?_⟩ <;> rcases (by omega : n = 0 ∨ n = 1 ∨ n = 2 ∨ n = 3) with rfl | rfl | rfl | rfl <;> simp [hB, chain, walk, hdr, opts, List.replicate, errT, e1, e2, e3, e5, e6, h]
    | false => refine ⟨0, 2, 74 + n, 7, _, 42 + n, .inr (.inr ⟨by omega, .inr rfl, rfl, rfl, rfl, rfl, rfl⟩), ?_, ?_⟩ <;> rcases (by omega : n = 0 ∨ n = 1 ∨ n = 2 ∨ n = 3) with rfl | rfl | rfl | rfl <;> simp [hB, chain, walk, hdr, opts, List.replicate, faulT, e1, e2, e3, e5, e6, h]
end Go.Proofs.Ytfkjfdmepeahnaa.Hd
