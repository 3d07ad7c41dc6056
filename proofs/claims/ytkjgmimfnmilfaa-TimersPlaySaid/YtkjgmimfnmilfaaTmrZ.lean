/-
  More of plain lists of timers: what has, put, del and tm say of one another.
  Conditions: none.
-/
import Derived.Test.YtkjgmimfnmilfaaTmrY
namespace Go.Proofs.Ytkjgmimfnmilfaa.Tm5

theorem Bool_iff {a b : Bool} (h : a = true ↔ b = true) : a = b := Bool.eq_iff_iff.2 h
theorem has_put {L : List Tm} {x : Tm} {k : Tk} : has (put L x) k = (sameK x.k k || has L k) := by
  refine Bool_iff ?_
  rw [has_yes, Bool.or_eq_true, sameK_iff, has_yes]
  constructor
  · rintro ⟨y, hy, e⟩
    rcases (mem_put y).1 hy with rfl | ⟨h1, _⟩
    · exact .inl e
    · exact .inr ⟨y, h1, e⟩
  · rintro (e | ⟨y, hy, e⟩)
    · exact ⟨x, (mem_put x).2 (.inl rfl), e⟩
    · by_cases q : y.k = x.k
      · exact ⟨x, (mem_put x).2 (.inl rfl), by rw [← q, e]⟩
      · exact ⟨y, (mem_put y).2 (.inr ⟨hy, q⟩), e⟩
theorem has_del {L : List Tm} {k k' : Tk} : has (del L k) k' = (!sameK k k' && has L k') := by
  refine Bool_iff ?_
  rw [has_yes, Bool.and_eq_true, has_yes]
  simp only [Bool.not_eq_true', sameK_no]
  constructor
  · rintro ⟨y, hy, e⟩
    obtain ⟨h1, h2⟩ := mem_del.1 hy
    exact ⟨fun q => h2 (by rw [e, q]), y, h1, e⟩
  · rintro ⟨h, y, hy, e⟩
    exact ⟨y, mem_del.2 ⟨hy, fun q => h (by rw [← q, e])⟩, e⟩
theorem tm_eq {L : List Tm} (h : Kn L) {x : Tm} (hx : x ∈ L) : tm L x.k = x.t := by
  have hh : has L x.k = true := has_yes.2 ⟨x, hx, rfl⟩
  have := h.one (tm_mem hh) hx rfl
  rw [← this]
theorem tm_put {L : List Tm} (h : Kn L) {x : Tm} : tm (put L x) x.k = x.t := tm_eq (kn_put h) ((mem_put x).2 (.inl rfl))
theorem put_new {L : List Tm} {x : Tm} (h : has L x.k = false) : put L x = L ++ [x] := by unfold put; rw [if_neg (by simp [h])]
theorem put_len_new {L : List Tm} {x : Tm} (h : has L x.k = false) : (put L x).length = L.length + 1 := by rw [put_len, if_neg (by simp [h])]
theorem put_len_old {L : List Tm} {x : Tm} (h : has L x.k = true) : (put L x).length = L.length := by rw [put_len, if_pos h]
theorem del_len' {L : List Tm} {k : Tk} (h : Kn L) (hk : has L k = true) : (del L k).length + 1 = L.length := by
  obtain ⟨y, hy, rfl⟩ := has_yes.1 hk
  exact del_len h hy

end Go.Proofs.Ytkjgmimfnmilfaa.Tm5
