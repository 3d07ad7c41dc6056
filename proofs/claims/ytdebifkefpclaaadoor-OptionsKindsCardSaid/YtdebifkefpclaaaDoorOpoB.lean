/-
  A list of options in a row of its own; all its bytes noted in a book.
  Conditions: no more than 100000 lists in the book.
-/
import Derived.Test.YtdebifkefpclaaaDoorOpoS
import Derived.Test.YtdebifkefpclaaaDoorBookC
namespace Go.Proofs.YtdebifkefpclaaaDoor.Oz
set_option maxRecDepth 100000
open Go.RowKit Ops

/-- options that lie in a row -/
def InRow (w : World) (A : Option Addr) (l : List El) : Prop := l = [] ∨ ∃ g cs, A = some ⟨g, 0, none⟩ ∧ Row w g 29 cs ∧ ∀ (i : Nat) (x : El), l[i]? = some x → cs[i * 2]? = some (.int .u8 x.k) ∧ cs[i * 2 + 1]? = some x.v
theorem InRow.keep {w w' : World} {A : Option Addr} {l : List El} (h : InRow w A l) (q : Below w.heap.size w w') : InRow w' A l := by
  rcases h with h | ⟨g, cs, h1, h2, h3⟩
  · exact .inl h
  · exact .inr ⟨g, cs, h1, h2.keep q, h3⟩
theorem InRow.bf {w w' : World} {A : Option Addr} {l : List El} {base : Nat} (h : InRow w A l) (q : BF base w w') : InRow w' A l := by
  rcases h with h | ⟨g, cs, h1, h2, h3⟩
  · exact .inl h
  · exact .inr ⟨g, cs, h1, q.2 g _ cs h2 (by decide) (by decide), h3⟩
theorem InRow.at {w : World} {A : Option Addr} {l : List El} (h : InRow w A l) {i : Nat} {x : El} (hx : l[i]? = some x) : ∃ a, A = some a ∧ ElAt w (a.add (i * 2)) x := by
  rcases h with h | ⟨g, cs, h1, h2, h3⟩
  · rw [h] at hx; simp at hx
  · obtain ⟨e1, e2⟩ := h3 i x hx
    refine ⟨_, h1, ?_⟩
    have hadd : (⟨g, 0, none⟩ : Addr).add (i * 2) = ⟨g, i * 2, none⟩ := by unfold Addr.add; split <;> simp_all
    rw [hadd]
    exact ⟨by rw [h2.cell]; exact e1, by rw [h2.cell]; exact e2⟩
theorem InRow.reads {w : World} {A : Option Addr} {l : List El} {os : List (Int × List Int)} (h : InRow w A l) (hl : l.length = os.length) (hs : ∀ (i : Nat) (x : El) (o : Int × List Int), l[i]? = some x → os[i]? = some o → x.k = o.1 ∧ Slc w x.v o.2) : Reads w A os := fun i o ho => by
  have hi : i < l.length := by rw [hl]; exact (List.getElem?_eq_some_iff.1 ho).1
  obtain ⟨a, ha, he⟩ := h.at (List.getElem?_eq_getElem hi)
  obtain ⟨h1, h2⟩ := hs i _ o (List.getElem?_eq_getElem hi) ho
  exact ⟨a, _, ha, he, h1, h2⟩
theorem Many.inRow {w0 w : World} {L : List Blk} {base : Nat} {A : Option Addr} {n c : Nat} {l : List El} (h : Many w0 w L base (.slice A n c) l) : InRow w A l := by
  rcases h.own.2 with ⟨_, h0⟩ | ⟨g, cap, cur, e, _, hg, hc, _, hs, ht⟩
  · exact .inl (List.eq_nil_of_length_eq_zero h0)
  · injection e with e1 e2 e3
    refine .inr ⟨g, cur, e1, hg, fun i x hx => ?_⟩
    have hi : i < l.length := (List.getElem?_eq_some_iff.1 hx).1
    obtain ⟨h1, h2⟩ := cv_at hx
    have hcur : ∀ j, j < l.length * 2 → cur[j]? = (cv l)[j]? := fun j hj => by
      rw [← ht, List.getElem?_take, if_pos hj, Array.getElem?_toList]
    exact ⟨by rw [hcur _ (by omega)]; exact h1, by rw [hcur _ (by omega)]; exact h2⟩

/-- what a list's notes are -/
def Notes (l : List El) (Ms : List Leaf) : Prop := Ms.length = l.length ∧ ∀ (i : Nat) (x : El), l[i]? = some x → ∃ M, Ms[i]? = some M ∧ M.A = x.A ∧ M.n = x.n ∧ M.c = x.c
theorem notes_next {l : List El} {i : Nat} {x : El} {Ms : List Leaf} (h : Notes (l.take i) Ms) (hx : l[i]? = some x) (a b : Int) : Notes (l.take (i + 1)) (Ms ++ [⟨x.A, x.n, x.c, a, b⟩]) := by
  have hi : i < l.length := (List.getElem?_eq_some_iff.1 hx).1
  have hm : Ms.length = i := by rw [h.1]; simp; omega
  refine ⟨by simp; omega, fun j y hy => ?_⟩
  rw [List.getElem?_take] at hy
  split at hy
  · rename_i hj
    by_cases hji : j < i
    · obtain ⟨M, h1, h2⟩ := h.2 j y (by rw [List.getElem?_take, if_pos hji]; exact hy)
      exact ⟨M, by rw [List.getElem?_append_left (by omega)]; exact h1, h2⟩
    · obtain rfl : j = i := by omega
      rw [hx] at hy
      injection hy with hy
      subst hy
      refine ⟨⟨x.A, x.n, x.c, a, b⟩, ?_, rfl, rfl, rfl⟩
      rw [List.getElem?_append_right (by omega), hm, Nat.sub_self]
      rfl
  · cases hy

set_option linter.unusedSimpArgs false in
set_option maxHeartbeats 4000000 in
theorem noteOptions (w : World) (base k : Nat) (Ls : List Leaf) (A : Option Addr) (n c : Nat) (l : List El) (h : BookAt w base k Ls) (hl : l.length = n) (hr : InRow w A l) (hn : Ls.length + n ≤ 100000) (hB : base ≤ w.heap.size) :
    Calls Tryd.prog 19 #[.pointer (some ⟨k, 0, none⟩), .slice A n c] w fun e w' => e = .returned (.tuple #[]) ∧ (∃ Ms, Notes l Ms ∧ BookAt w' base k (Ls ++ Ms)) ∧ BF base w w' := by
  have HR := veil hr
  have HL := veil hl
  have HB := veil h
  have HZ := veil hB
  clear h hr hl hB
  go_enter Tryd.func19, Tryd.ntmps19
  go_wp2_with fail
  go_loopw [4] (fun s4 wr => ∃ (i : Nat) (Ms : List Leaf), i ≤ n ∧ s4 = .int .i64 i ∧ Hid (Notes (l.take i) Ms) ∧ Hid (BookAt wr base k (Ls ++ Ms)) ∧ Hid (BF base w wr)) (fun s4 _ => n - (intOf s4).toNat)
  case atStart => exact ⟨0, [], Nat.zero_le _, rfl, veil ⟨by simp, fun i x hx => by simp at hx⟩, veil (by simpa using HB.out), veil ⟨Below.refl _ _, fun g t cs hr _ _ => hr⟩⟩
  case round =>
    rename_i wr
    obtain ⟨i, Ms, hi, rfl, VN, VB, VF⟩ := hrel
    clear HB
    by_cases hlt : i < n
    · have ij : (i : Int) < (n : Int) := by omega
      obtain ⟨x, hx⟩ : ∃ x, l[i]? = some x := ⟨_, List.getElem?_eq_getElem (by rw [HL.out]; exact hlt)⟩
      obtain ⟨a, ha, X⟩ := (HR.out.bf VF.out).at hx
      subst ha
      have c2 := X.data
      have hml : Ms.length = i := by rw [VN.out.1]; simp; have := HL.out; omega
      have K := veil (note_any wr base k (Ls ++ Ms) x.A x.n x.c VB.out (by rw [List.length_append]; omega) (Nat.le_trans HZ.out VF.out.1.size))
      have HX := veil hx
      clear X hx hml
      go_wp2_with fail
      refine (K.out).mono ?_
      rintro e w2 ⟨rfl, ⟨p, q, hB2⟩, hF2⟩
      have VB2 := veil hB2
      have VF2 : Hid (BF base w w2) := veil ⟨VF.out.1.trans hF2.1, fun g t cs hr h1 h2 => hF2.2 g t cs (VF.out.2 g t cs hr h1 h2) h1 h2⟩
      clear K hB2 hF2 c2
      go_wp2_with fail
      go_roundw
      case rel => exact ⟨i + 1, Ms ++ [⟨x.A, x.n, x.c, p, q⟩], by omega, by go_num, veil (notes_next VN.out HX.out p q), veil (by rw [← List.append_assoc]; exact VB2.out), VF2⟩
      case measure => simp [intOf]; omega
    · obtain rfl : i = n := by omega
      have ij : ¬ (i : Int) < (i : Int) := by omega
      go_wp2_with fail
      go_end0
      have hN := VN.out
      rw [List.take_of_length_le (by rw [HL.out]; omega)] at hN
      exact ⟨rfl, ⟨Ms, hN, VB.out⟩, VF.out⟩

end Go.Proofs.YtdebifkefpclaaaDoor.Oz
