/-
  What the law of OctetsCut is walked by: a slice of asks, and two notes more.
  Conditions: none.
-/
import Derived.Test.YtddmjenhpbbocaaOctT
import Derived.Test.YtddmjenhpbbocaaOpen
import Derived.Test.YtddmjenhpbbocaaTwin
import Derived.Deep.SlicePairs
namespace Go.Proofs.Ytddmjenhpbbocaa.octetsCut
open Go.ChangeShapes Go.WideShapes Go.ChangeAt Go.RowKit

/-- a slice of asks -/
def Asks (w : World) (A : Option Addr) (ps : List (Int × Int)) : Prop :=
  ∀ i, i < ps.length → ∃ b o, A = some ⟨b, o, none⟩ ∧ w.cell? ⟨b, o + i * 2, none⟩ = some (.int .u8 (ps.getD i (0, 0)).1) ∧ w.cell? ⟨b, o + i * 2 + 1, none⟩ = some (.int .i64 (ps.getD i (0, 0)).2)
def Fine (ps : List (Int × Int)) : Prop := ∀ p ∈ ps, 0 ≤ p.1 ∧ p.1 ≤ 255
theorem fine_at {ps : List (Int × Int)} (h : Fine ps) (j : Nat) (hj : j < ps.length) : 0 ≤ (ps.getD j (0, 0)).1 ∧ (ps.getD j (0, 0)).1 ≤ 255 := by
  have e : ps.getD j (0, 0) = ps[j] := by simp [List.getD, hj]
  rw [e]
  exact h _ (List.getElem_mem hj)
theorem Asks.keep {w w' : World} {A : Option Addr} {ps : List (Int × Int)} (h : Asks w A ps) (hb : Below w.heap.size w w') : Asks w' A ps := by
  intro i hi
  obtain ⟨b, o, e, h0, h1⟩ := h i hi
  exact ⟨b, o, e, by rw [hb.cell (block_lt_of_cell h0), h0], by rw [hb.cell (block_lt_of_cell h1), h1]⟩
theorem own_brd {w : World} {base : Nat} {A : Option Addr} {n c : Nat} {xs : List Int} (h : Own w base (.slice A n c) xs) : BRd w A xs := by
  unfold Own at h
  rcases h.2 with ⟨e1, e2⟩ | ⟨g', cap, cur, e1, _, hg', _, _, _, ht⟩
  · have : xs = [] := List.eq_nil_of_length_eq_zero e2
    subst this
    exact fun j hj => absurd hj (by simp)
  · injection e1 with e1 _ _
    subst e1
    intro j hj
    refine ⟨g', 0, cur, rfl, hg', ?_⟩
    have e := bv_get xs j hj
    rw [← ht, List.getElem?_take, if_pos (by omega)] at e
    simpa using e
/-- what stands in the document's cutter -/
theorem ref_cells {w : World} {h : Nat} {zs : List Int} {p : Nat} {ok : Bool} (hr : RefS w h zs p ok) : ∃ A c, w.cell? ⟨h, 0, none⟩ = some (.slice A (if ok = true then zs.length - p else 0) c) ∧ w.cell? ⟨h, 1, none⟩ = some (.bool (!ok)) := by
  cases ok with
  | true =>
    obtain ⟨A, n, c, hr, hn, _⟩ := hr.1 rfl
    subst hn
    exact ⟨A, c, hr.cell 0, hr.cell 1⟩
  | false => exact ⟨none, 0, (hr.2 rfl).cell 0, (hr.2 rfl).cell 1⟩

/-- a list with two more at its end -/
theorem two_more (Ls : List Leaf) (X Y : Leaf) : ∀ (i : Nat) L, (Ls ++ [X] ++ [Y])[i]? = some L → (Ls[i]? = some L ∧ i < Ls.length) ∨ (i = Ls.length ∧ L = X) ∨ (i = Ls.length + 1 ∧ L = Y) := by
  intro i L hL
  by_cases h1 : i < Ls.length
  · left
    rw [List.getElem?_append_left (by simp; omega), List.getElem?_append_left h1] at hL
    exact ⟨hL, h1⟩
  · right
    by_cases h2 : i = Ls.length
    · left
      subst h2
      simp at hL
      exact ⟨rfl, hL.symm⟩
    · right
      rw [List.getElem?_append_right (by simp; omega)] at hL
      have h0 : i - (Ls ++ [X]).length = 0 := by
        have := (List.getElem?_eq_some_iff.1 hL).1
        simp at this
        simp
        omega
      rw [h0] at hL
      simp at hL
      simp at h0
      exact ⟨by omega, hL.symm⟩

theorem own : ownKnob Try.prog.godebug = none := by kernel_rfl
theorem readable : ∀ t ∈ Try.f3.params.toList, Try.prog.readableRec t = true ∧ t < Try.prog.types.size := by
  rw [Try.params3]
  intro t ht
  simp at ht
  rcases ht with rfl | rfl
  · exact ⟨by kernel_rfl, of_decide_eq_true (by kernel_rfl)⟩
  · exact ⟨by kernel_rfl, of_decide_eq_true (by kernel_rfl)⟩
theorem cells3 : Try.prog.cellsOf 3 = 1 := by kernel_rfl
theorem cellsAsk : Try.prog.cellsOf 35 = 2 := by kernel_rfl

/-- more than are gone through -/
theorem walk_more (A B : Option Addr) (ln lc bn bc : Nat) (w : World) (h : 5000 < ln ∨ 100 < bn) :
    Calls Try.prog 3 #[.slice A ln lc, .slice B bn bc] w fun e w' => e = .returned (.bool true) ∧ Below w.heap.size w w' := by
  by_cases h1 : 5000 < ln
  · clear h
    go_enter Try.func3, Try.ntmps3
    go_wp2_with fail
    refine (lives_true _).mono ?_
    rintro e w8 ⟨rfl, hw8⟩
    go_wp2_with fail
    go_ret
    exact ⟨rfl, hw8⟩
  · have h2 : 100 < bn := by omega
    have h3 : ln ≤ 5000 := by omega
    clear h h1
    go_enter Try.func3, Try.ntmps3
    go_wp2_with fail
    refine (lives_true _).mono ?_
    rintro e w8 ⟨rfl, hw8⟩
    go_wp2_with fail
    go_ret
    exact ⟨rfl, hw8⟩

section
variable {H : Type} {enc : TypeId × Value → H} {W : World} {base : Nat} {sp : Nat → Bool} {held : Bool}
theorem open_asks {v : Value} {d : DataW H} {p : List MemPlace} {r : Reach} {b0 : Nat} (hv : Value.okWide Try.prog W r b0 23 v) (h : DataW.Trod enc Try.prog W base sp held 23 v d p) :
    ∃ A n c ps, v = .slice A n c ∧ Asks W A ps ∧ ps.length = n ∧ Fine ps := by
  obtain ⟨fuel, hf⟩ := h
  obtain ⟨A, n, c, rfl⟩ := okWide_slice Try.underlying23 hv
  rcases Go.Deep.open_slice_pairs Try.underlying23 Try.underlying35 cellsAsk rfl rfl cells5 cells3 hf with ⟨h0, _⟩ | ⟨a, len, cap, m, k, V0, V1, D0, D1, P0, P1, h0, _, hl, _, hm, _, hi⟩
  · simp [Value.cells] at h0
    obtain ⟨rfl, rfl, rfl⟩ := h0
    exact ⟨none, 0, 0, [], rfl, by simp [Asks], rfl, by simp [Fine]⟩
  · simp [Value.cells] at h0
    obtain ⟨rfl, rfl, rfl⟩ := h0
    have hlm : n ≤ m := by rw [hm]; split <;> omega
    have each : ∀ i, i < n → ∃ q : Int × Int, W.cell? (a.add (i * 2)) = some (.int .u8 q.1) ∧ W.cell? (a.add (i * 2 + 1)) = some (.int .i64 q.2) ∧ 0 ≤ q.1 ∧ q.1 ≤ 255 := by
      intro i hin
      obtain ⟨c0, c1, t0, t1⟩ := hi i (by omega)
      obtain ⟨x, e0, _, wx⟩ := DataW.trod_int Try.underlying5 t0
      obtain ⟨y, e1, _, wy⟩ := DataW.trod_int Try.underlying3 t1
      simp at e0 e1
      exact ⟨(x, y), by rw [c0, e0], by rw [c1, e1], u8_of wx⟩
    have hq : ∃ f : Nat → Int × Int, ∀ i, i < n → W.cell? (a.add (i * 2)) = some (.int .u8 (f i).1) ∧ W.cell? (a.add (i * 2 + 1)) = some (.int .i64 (f i).2) ∧ 0 ≤ (f i).1 ∧ (f i).1 ≤ 255 :=
      ⟨fun i => if h : i < n then (each i h).choose else (0, 0), fun i h => by simp only [h, dif_pos]; exact (each i h).choose_spec⟩
    obtain ⟨f, hf⟩ := hq
    refine ⟨some a, n, c, (List.range n).map f, rfl, ?_, by simp, ?_⟩
    · intro i hin
      have hin' : i < n := by simpa using hin
      have hs : a.spot = none := by
        have h00 := (hf 0 (by omega)).1
        simp only [World.cell?, Nat.zero_mul, Addr.add, if_true] at h00
        split at h00
        · split at h00
          · cases h00
          · rename_i h1
            cases hsp : a.spot with
            | none => rfl
            | some x => simp [hsp] at h1
        · cases h00
      obtain ⟨b, o, s⟩ := a
      simp only at hs
      subst hs
      obtain ⟨g0, g1, _⟩ := hf i hin'
      have e : ((List.range n).map f).getD i (0, 0) = f i := by simp [List.getD, hin']
      rw [e]
      refine ⟨b, o, rfl, ?_, ?_⟩
      · rw [← g0]
        congr 1
        simp [Addr.add]
      · rw [← g1]
        congr 1
    · intro p hp
      obtain ⟨i, hin, rfl⟩ := List.mem_map.1 hp
      exact (hf i (by simpa using hin)).2.2
end

end Go.Proofs.Ytddmjenhpbbocaa.octetsCut
