/-
  A list of options and its twin; a twin that was left as it was made.
  Conditions: a list that reads as options; at most 16000000 bytes each.
-/
import Derived.Test.YthkiamkhignchaaDoorOpoS
import Derived.Test.YthkiamkhignchaaDoorOpoB
import Derived.Test.YthkiamkhignchaaDoorTwin
namespace Go.Proofs.YthkiamkhignchaaDoor.Oz
set_option maxRecDepth 100000
open Go.RowKit Ops

theorem cv_set : ∀ {l : List El} {i : Nat} (_ : i < l.length) (x : El), (cv l).take (i * 2) ++ tv x ++ (cv l).drop (i * 2 + (tv x).length) = cv (l.set i x)
  | [], i, h, x => by simp at h
  | y :: l, 0, h, x => by simp [cv]
  | y :: l, i + 1, h, x => by
    have ih := cv_set (l := l) (i := i) (by simpa using h) x
    have e : cv (y :: l) = tv y ++ cv l := by simp [cv]
    have e2 : cv (y :: l.set i x) = tv y ++ cv (l.set i x) := by simp [cv]
    rw [List.set_cons_succ, e2, ← ih, e]
    simp [show (i + 1) * 2 = i * 2 + 1 + 1 by omega, show i * 2 + 1 + 1 + 2 = i * 2 + 2 + 1 + 1 by omega]

/-- a twin as far as the i-th element -/
structure Twins (w0 w : World) (g : Nat) (ls : List El) (os : List (Int × List Int)) (i : Nat) : Prop where
  len : ls.length = os.length + 4
  row : Row w g 46 (cv ls).toArray
  own : w0.heap.size ≤ g
  each : ∀ (j : Nat) (o : Int × List Int), j < i → os[j]? = some o → ∃ q, ls[j]? = some ⟨o.1, some ⟨q, 0, none⟩, o.2.length, o.2.length + 4⟩ ∧ TwinAt w q o.2 ∧ w0.heap.size ≤ q
  room : ∀ j, os.length ≤ j → j < i → ls[j]? = some ⟨201, none, 0, 0⟩
  apart : ∀ (j j' q q' : Nat) (x x' : El), j < j' → j' < i → j' < os.length → ls[j]? = some x → ls[j']? = some x' → x.A = some ⟨q, 0, none⟩ → x'.A = some ⟨q', 0, none⟩ → q < q'
  below : Below w0.heap.size w0 w
section
variable {w0 w w' : World} {g i : Nat} {ls : List El} {os : List (Int × List Int)}
theorem Twins.keep (h : Twins w0 w g ls os i) (q : Below w.heap.size w w') : Twins w0 w' g ls os i :=
  ⟨h.len, h.row.keep q, h.own, fun j o hj ho => by
    obtain ⟨b, h1, h2, h3⟩ := h.each j o hj ho
    exact ⟨b, h1, h2.keep q, h3⟩, h.room, h.apart, h.below.trans (q.mono h.below.size)⟩
theorem twin_keep {q : Nat} {zs : List Int} (h : TwinAt w q zs) (hr : Row w g 46 (cv ls).toArray) (cs : Array Value) : TwinAt (w.setRow g cs) q zs :=
  row_setRow_far h cs (row_ne h hr (by decide))
theorem Twins.put (h : Twins w0 w g ls os i) (x : El) : Twins w0 (w.setRow g (cv (ls.set i x)).toArray) g (ls.set i x) os i := by
  have hg : ∀ (j : Nat) (y : El), j < i → ((ls.set i x)[j]? = some y ↔ ls[j]? = some y) := fun j y hj => by
    rw [List.getElem?_set_ne (by omega)]
  refine ⟨by rw [List.length_set, h.len], h.row.setRow _, h.own, fun j o hj ho => ?_, fun j h1 h2 => (hg j _ h2).2 (h.room j h1 h2), fun j j' q q' y y' h1 h2 h3 h4 h5 => h.apart j j' q q' y y' h1 h2 h3 ((hg j _ (by omega)).1 h4) ((hg j' _ h2).1 h5), below_setRow h.below g _ h.own⟩
  obtain ⟨b, h1, h2, h3⟩ := h.each j o hj ho
  exact ⟨b, (hg j _ hj).2 h1, twin_keep h2 h.row _, h3⟩
theorem Twins.store (h : Twins w0 w g ls os i) (hi : i < os.length + 4) (x : El) : (Instr.storeAt 46 (.pointer (some ⟨g, i * 2, none⟩)) (ov x)).run Tryd.prog w = .ok () (w.setRow g (cv (ls.set i x)).toArray) := by
  have hl := h.len
  rw [← cv_set (by omega) x]
  exact store_part h.row (by rw [cv_length]; simp; omega) (by kernel_rfl) (by intro v hv; simp at hv; rcases hv with rfl | rfl <;> rfl)
theorem Twins.far (h : Twins w0 w g ls os i) (hi : i ≤ os.length) (j : Nat) (q : Nat) (x : El) (hj : j < i) (hx : ls[j]? = some x) (hq : x.A = some ⟨q, 0, none⟩) : q < w.heap.size := by
  obtain ⟨o, ho⟩ : ∃ o, os[j]? = some o := ⟨_, List.getElem?_eq_getElem (by omega)⟩
  obtain ⟨b, h1, h2, _⟩ := h.each j o hj ho
  rw [hx] at h1
  injection h1 with h1
  subst h1
  injection hq with hq
  injection hq with hq
  subst hq
  exact h2.lt
theorem Twins.more (h : Twins w0 w g ls os i) (hi : os.length ≤ i) (hx : ls[i]? = some ⟨201, none, 0, 0⟩) : Twins w0 w g ls os (i + 1) :=
  ⟨h.len, h.row, h.own, fun j o hj ho => h.each j o (by have := (List.getElem?_eq_some_iff.1 ho).1; omega) ho, fun j h1 h2 => by
    rcases Nat.lt_or_ge j i with h3 | h3
    · exact h.room j h1 h3
    · obtain rfl : j = i := by omega
      exact hx, fun j j' q q' x x' h1 h2 h3 => h.apart j j' q q' x x' h1 (by omega) h3, h.below⟩
theorem Twins.next (h : Twins w0 w g ls os i) {o : Int × List Int} {q : Nat} (ho : os[i]? = some o) (hx : ls[i]? = some ⟨o.1, some ⟨q, 0, none⟩, o.2.length, o.2.length + 4⟩) (ht : TwinAt w q o.2) (hq : w0.heap.size ≤ q)
    (hf : ∀ (j b : Nat) (x : El), j < i → ls[j]? = some x → x.A = some ⟨b, 0, none⟩ → b < q) : Twins w0 w g ls os (i + 1) := by
  have hil := (List.getElem?_eq_some_iff.1 ho).1
  refine ⟨h.len, h.row, h.own, fun j o' hj ho' => ?_, fun j h1 h2 => by omega, fun j j' b b' x x' h1 h2 h3 h4 h5 h6 h7 => ?_, h.below⟩
  · rcases Nat.lt_or_ge j i with h3 | h3
    · exact h.each j o' h3 ho'
    · obtain rfl : j = i := by omega
      rw [ho] at ho'
      injection ho' with ho'
      subst ho'
      exact ⟨q, hx, ht, hq⟩
  · rcases Nat.lt_or_ge j' i with h8 | h8
    · exact h.apart j j' b b' x x' h1 h8 h3 h4 h5 h6 h7
    · obtain rfl : j' = i := by omega
      rw [hx] at h5
      injection h5 with h5
      subst h5
      injection h7 with h7
      injection h7 with h7
      subst h7
      exact hf j b x h1 h4 h6
theorem Twins.elAt (h : Twins w0 w g ls os i) {j : Nat} {x : El} (hx : ls[j]? = some x) : ElAt w ⟨g, j * 2, none⟩ x := by
  obtain ⟨h1, h2⟩ := cv_at hx
  exact ⟨by rw [h.row.cell]; simpa using h1, by rw [h.row.cell]; simpa using h2⟩
theorem Twins.reads (h : Twins w0 w g ls os (os.length + 4)) : Reads w (some ⟨g, 0, none⟩) os := fun j o ho => by
  have hj := (List.getElem?_eq_some_iff.1 ho).1
  obtain ⟨q, h1, h2, _⟩ := h.each j o (by omega) ho
  refine ⟨_, ⟨o.1, some ⟨q, 0, none⟩, o.2.length, o.2.length + 4⟩, rfl, ?_, rfl, .inr ⟨_, o.2.length + 4, rfl, h2.rd, by omega⟩⟩
  have := h.elAt h1
  rwa [show (⟨g, 0, none⟩ : Addr).add (j * 2) = ⟨g, j * 2, none⟩ by unfold Addr.add; split <;> simp_all]
theorem Twins.inRow (h : Twins w0 w g ls os i) : InRow w (some ⟨g, 0, none⟩) (ls.take os.length) := by
  refine .inr ⟨g, _, rfl, h.row, fun j x hx => ?_⟩
  rw [List.getElem?_take] at hx
  split at hx
  · simpa using cv_at hx
  · cases hx
end

theorem made_els (m : Nat) : madeCells #[.int .u8 0, .slice none 0 0] (m * 2) = (cv (List.replicate m ⟨0, none, 0, 0⟩)).toArray := by
  apply Array.ext_getElem?
  intro j
  by_cases hj : j < m * 2
  · have h : (List.replicate m (⟨0, none, 0, 0⟩ : El))[j / 2]? = some ⟨0, none, 0, 0⟩ := by rw [List.getElem?_replicate, if_pos (by omega)]
    obtain ⟨h1, h2⟩ := cv_at h
    rcases (by omega : j / 2 * 2 = j ∧ j % 2 = 0 ∨ j / 2 * 2 + 1 = j ∧ j % 2 = 1) with ⟨e, e2⟩ | ⟨e, e2⟩
    · rw [e] at h1
      simp [madeCells, hj, e2, h1]
    · rw [e] at h2
      simp [madeCells, hj, e2, h2]
  · rw [Array.getElem?_eq_none (by rw [size_madeCells]; omega), Array.getElem?_eq_none (by simp [cv_length]; omega)]
theorem run_make_opt (n : Nat) (hn : n ≤ 2000000) (u : World) : (Instr.makeSlice 31 (.int .i64 n) (.int .i64 n)).run Tryd.prog u = .ok (.slice (some ⟨u.heap.size, 0, none⟩) n n) (u.alloc (.cells (cv (List.replicate n ⟨0, none, 0, 0⟩)).toArray 46)) := by
  have hT : (Tryd.prog.info? 46).map (fun i => (i.zero, i.size, i.bytes)) = some (some (.agg #[.int .u8 0, .slice none 0 0]), 2, 32) := by kernel_rfl
  obtain ⟨i, hi, hz0, hz1, hz2⟩ := info_parts hT
  have h := run_make (P := Tryd.prog) u 31 46 i _ Tryd.underlying31 hi hz0 .i64 .i64 n n (by omega) (by omega) (by rw [hz2]; omega) (by omega)
  rw [← made_els]
  simpa [hz1, Value.cells] using h
theorem Twins.begin (w : World) (os : List (Int × List Int)) (n : Nat) (hl : os.length = n) : Twins w (w.alloc (.cells (cv (List.replicate (n + 4) ⟨0, none, 0, 0⟩)).toArray 46)) w.heap.size (List.replicate (n + 4) ⟨0, none, 0, 0⟩) os 0 :=
  ⟨by simp [hl], row_new rfl, Nat.le_refl _, fun j o hj => by omega, fun j h1 h2 => by omega, fun j j' q q' x x' h1 h2 => by omega, below_new w _⟩

end Go.Proofs.YthkiamkhignchaaDoor.Oz
