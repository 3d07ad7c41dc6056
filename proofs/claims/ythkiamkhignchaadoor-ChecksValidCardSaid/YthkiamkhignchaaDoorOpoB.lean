/-
  A list of options in a row of its own; all its bytes noted in a book.
  Conditions: no more than 100000 lists in the book.
-/
import Derived.Test.YthkiamkhignchaaDoorOpoS
import Derived.Test.YthkiamkhignchaaDoorBookC
namespace Go.Proofs.YthkiamkhignchaaDoor.Oz
set_option maxRecDepth 100000
open Go.RowKit Ops

/-- options that lie in a row -/
def InRow (w : World) (A : Option Addr) (l : List El) : Prop := l = [] ∨ ∃ g cs, A = some ⟨g, 0, none⟩ ∧ Row w g 46 cs ∧ ∀ (i : Nat) (x : El), l[i]? = some x → cs[i * 2]? = some (.int .u8 x.k) ∧ cs[i * 2 + 1]? = some x.v
theorem InRow.keep {w w' : World} {A : Option Addr} {l : List El} (h : InRow w A l) (q : Below w.heap.size w w') : InRow w' A l := by
  rcases h with h | ⟨g, cs, h1, h2, h3⟩
  · exact .inl h
  · exact .inr ⟨g, cs, h1, h2.keep q, h3⟩
theorem InRow.at {w : World} {A : Option Addr} {l : List El} (h : InRow w A l) {i : Nat} {x : El} (hx : l[i]? = some x) : ∃ a, A = some a ∧ ElAt w (a.add (i * 2)) x := by
  rcases h with h | ⟨g, cs, h1, h2, h3⟩
  · rw [h] at hx; simp at hx
  · obtain ⟨e1, e2⟩ := h3 i x hx
    refine ⟨_, h1, ?_⟩
    have hadd : (⟨g, 0, none⟩ : Addr).add (i * 2) = ⟨g, i * 2, none⟩ := by unfold Addr.add; split <;> simp_all
    rw [hadd]
    exact ⟨by rw [h2.cell]; exact e1, by rw [h2.cell]; exact e2⟩
theorem InRow.reads {w : World} {A : Option Addr} {l : List El} {os : List (Int × List Int)} (h : InRow w A l) (hl : l.length = os.length) (hs : ∀ (i : Nat) (x : El) (o : Int × List Int), l[i]? = some x → os[i]? = some o → x.k = o.1 ∧ Slc w x.v o.2) : Reads w A os := fun i o ho => by
  have hi : i < l.length := by rw [hl]; exact (List.getElem?_eq_some_iff.1 ho).1
  obtain ⟨a, ha, he⟩ := h.at (List.getElem?_eq_getElem hi)
  obtain ⟨h1, h2⟩ := hs i _ o (List.getElem?_eq_getElem hi) ho
  exact ⟨a, _, ha, he, h1, h2⟩
theorem Many.inRow {w0 w : World} {L : List Blk} {base : Nat} {A : Option Addr} {n c : Nat} {l : List El} (h : Many w0 w L base (.slice A n c) l) : InRow w A l := by
  rcases h.own.2 with ⟨_, h0⟩ | ⟨g, cap, cur, e, _, hg, hc, _, hs, ht⟩
  · exact .inl (List.eq_nil_of_length_eq_zero h0)
  · injection e with e1 e2 e3
    refine .inr ⟨g, cur, e1, hg, fun i x hx => ?_⟩
    have hi : i < l.length := (List.getElem?_eq_some_iff.1 hx).1
    obtain ⟨h1, h2⟩ := cv_at hx
    have hcur : ∀ j, j < l.length * 2 → cur[j]? = (cv l)[j]? := fun j hj => by
      rw [← ht, List.getElem?_take, if_pos hj, Array.getElem?_toList]
    exact ⟨by rw [hcur _ (by omega)]; exact h1, by rw [hcur _ (by omega)]; exact h2⟩

/-- what a list's notes are -/
def Notes (l : List El) (Ms : List Leaf) : Prop := Ms.length = l.length ∧ ∀ (i : Nat) (x : El), l[i]? = some x → ∃ M, Ms[i]? = some M ∧ M.A = x.A ∧ M.n = x.n ∧ M.c = x.c
theorem notes_next {l : List El} {i : Nat} {x : El} {Ms : List Leaf} (h : Notes (l.take i) Ms) (hx : l[i]? = some x) (a b : Int) : Notes (l.take (i + 1)) (Ms ++ [⟨x.A, x.n, x.c, a, b⟩]) := by
  have hi : i < l.length := (List.getElem?_eq_some_iff.1 hx).1
  have hm : Ms.length = i := by rw [h.1]; simp; omega
  refine ⟨by simp; omega, fun j y hy => ?_⟩
  rw [List.getElem?_take] at hy
  split at hy
  · rename_i hj
    by_cases hji : j < i
    · obtain ⟨M, h1, h2⟩ := h.2 j y (by rw [List.getElem?_take, if_pos hji]; exact hy)
      exact ⟨M, by rw [List.getElem?_append_left (by omega)]; exact h1, h2⟩
    · obtain rfl : j = i := by omega
      rw [hx] at hy
      injection hy with hy
      subst hy
      refine ⟨⟨x.A, x.n, x.c, a, b⟩, ?_, rfl, rfl, rfl⟩
      rw [List.getElem?_append_right (by omega), hm, Nat.sub_self]
      rfl
  · cases hy

end Go.Proofs.YthkiamkhignchaaDoor.Oz
