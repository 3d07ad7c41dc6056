/-
  What the reference's Next and Below answer, whatever waits.
  Conditions: its words lie in a block of their own; at most 16777216 of them.
-/
import Derived.Test.YtmjpmagfbiocnaaDrwB
namespace Go.Proofs.Ytmjpmagfbiocnaa.W32
open Go.RowKit

/-- the reference's words at r: its list is the value v, a list of its own that reads as q -/
structure Rf (w : World) (base r : Nat) (v : Value) (q : List Int) : Prop where
  row : Row w r 30 #[v]
  own : Own w base v q
  ne : v.ownBlock ≠ some r

/-- from w to w' only block r and block ob have changed -/
structure Alt (w w' : World) (r : Nat) (ob : Option Nat) : Prop where
  os : w'.os = w.os
  tape : w'.tape = w.tape
  output : w'.output = w.output
  size : w.heap.size ≤ w'.heap.size
  block : ∀ i, i < w.heap.size → i ≠ r → some i ≠ ob → w'.heap[i]? = w.heap[i]?

theorem alt_refl (w : World) (r : Nat) (ob : Option Nat) : Alt w w r ob := ⟨rfl, rfl, rfl, Nat.le_refl _, fun _ _ _ _ => rfl⟩
theorem alt_below {w w' : World} (h : Below w.heap.size w w') (r : Nat) (ob : Option Nat) : Alt w w' r ob := ⟨h.os, h.tape, h.output, h.size, fun i hi _ _ => h.block i hi⟩
theorem alt_gb {w w' : World} {r : Nat} {ob : Option Nat} (h : w.grownBy w' ob) : Alt w w' r ob := ⟨h.os, h.tape, h.output, h.size, fun i hi _ hne => h.block i hi hne⟩
theorem alt_set (w : World) (r : Nat) (ob : Option Nat) (i : Nat) (u : Value) : Alt w (w.setCell ⟨r, i, none⟩ u) r ob :=
  ⟨rfl, rfl, rfl, by simp [World.setCell], fun k _ hne _ => Below.heap_setCell w ⟨r, i, none⟩ u k hne⟩
/-- a second change, whose list lies where the first one's did, or in a block that is new -/
theorem Alt.trans {a b c : World} {r : Nat} {ob ob' : Option Nat} (h : Alt a b r ob) (k : Alt b c r ob') (ho : ob' = ob ∨ ∃ x, ob' = some x ∧ a.heap.size ≤ x) : Alt a c r ob := by
  refine ⟨k.os.trans h.os, k.tape.trans h.tape, k.output.trans h.output, Nat.le_trans h.size k.size, fun i hi h1 h2 => ?_⟩
  rw [k.block i (Nat.lt_of_lt_of_le hi h.size) h1 (by
    rcases ho with rfl | ⟨x, rfl, hx⟩
    · exact h2
    · intro e
      injection e with e
      omega), h.block i hi h1 h2]
theorem Row.alt {w w' : World} {g r : Nat} {ob : Option Nat} {t : TypeId} {cs : Array Value} (h : Row w g t cs) (k : Alt w w' r ob) (h1 : g ≠ r) (h2 : some g ≠ ob) : Row w' g t cs := (k.block g h.lt h1 h2).trans h
theorem Wd.alt {w w' : World} {g r : Nat} {ob : Option Nat} {q : List Int} (h : Wd w g q) (k : Alt w w' r ob) (h1 : g ≠ r) (h2 : some g ≠ ob) : Wd w' g q := by
  obtain ⟨R, f, c, rest⟩ := h
  exact ⟨R, f, ⟨Row.alt c.1 k h1 h2, c.2⟩, rest⟩
theorem below_alt {B : Nat} {a w w' : World} {r : Nat} {ob : Option Nat} (h : Below B a w) (k : Alt w w' r ob) (hB : B ≤ w.heap.size) (hr : B ≤ r) (ho : ∀ x, ob = some x → B ≤ x) : Below B a w' := by
  refine h.trans ⟨k.os, k.tape, k.output, k.size, fun i hi => k.block i (by omega) (by omega) (fun e => ?_)⟩
  have := ho i e.symm
  omega

theorem Rf.keep {w w' : World} {base r : Nat} {v : Value} {q : List Int} (h : Rf w base r v q) (hb : Below w.heap.size w w') : Rf w' base r v q := ⟨h.row.keep hb, h.own.keep hb, h.ne⟩
theorem Rf.gb {w w' : World} {base r g : Nat} {v : Value} {q : List Int} (h : Rf w base r v q) (hg : w.grownBy w' (some g)) (h1 : r ≠ g) (h2 : v.ownBlock ≠ some g) : Rf w' base r v q :=
  ⟨h.row.gb hg (fun e => h1 (by injection e)), h.own.gb hg h2, h.ne⟩
theorem own_is {w : World} {b : Nat} {v : Value} {xs : List Int} (h : Own w b v xs) : ∃ A c, v = .slice A xs.length c := by
  obtain ⟨A, c, e, _⟩ := h.slc.slice
  exact ⟨A, c, e⟩

theorem refNext_none {w : World} {base r : Nat} {v : Value} (h : Rf w base r v []) : Calls Try.prog 15 #[.pointer (some ⟨r, 0, none⟩)] w fun e w' => e = .returned (.int .u32 0) ∧ w = w' := by
  obtain ⟨A, c, rfl⟩ := own_is h.own
  have h0 : w.cell? ⟨r, 0, none⟩ = some (.slice A 0 c) := h.row.cell 0
  clear h
  go_enter Try.func15, Try.ntmps15
  go_wp2_with fail
  go_ret
  exact ⟨rfl, rfl⟩

/-- where the list lies: where it did, or in a block that is new -/
def Lies (w : World) (ob : Option Nat) (v : Value) : Prop := ∀ b, v.ownBlock = some b → some b = ob ∨ w.heap.size ≤ b

theorem refNext_some {w : World} {base r : Nat} {v : Value} {x : Int} {q : List Int} (h : Rf w base r v (x :: q)) (hb : base ≤ w.heap.size) (hq : q.length ≤ 2000) : Calls Try.prog 15 #[.pointer (some ⟨r, 0, none⟩)] w
    fun e w' => e = .returned (.int .u32 x) ∧ ∃ v', Rf w' base r v' q ∧ Alt w w' r none ∧ Lies w none v' := by
  obtain ⟨g, cap, rest, rfl, hg, hr, hc⟩ := own_row h.own (by simp)
  simp only [List.length_cons] at hc
  have h0 : w.cell? ⟨r, 0, none⟩ = some (.slice (some ⟨g, 0, none⟩) (q.length + 1) cap) := h.row.cell 0
  have h1 : w.cell? ⟨g, 0, none⟩ = some (.int .u32 x) := by rw [hr.cell]; simp [bv]
  have hf := h.row.frozen 0
  have H := veil h
  have HR := veil hr
  obtain ⟨L, hL⟩ : ∃ L, q.length = L := ⟨_, rfl⟩
  rw [hL] at h0 hc hq
  have HL := veil hL
  clear h hr hL
  have hu : Slc w (.slice (if cap = 1 then some ⟨g, 0, none⟩ else some ⟨g, 1, none⟩) L (cap - 1)) q := by
    by_cases e : cap = 1
    · rw [if_pos e]
      have : L = 0 := by omega
      have hq0 : q = [] := List.eq_nil_of_length_eq_zero (by rw [HL.out]; exact this)
      subst hq0
      exact .inr ⟨⟨g, 0, none⟩, cap - 1, by rw [this]; rfl, (fun j hj => by simp at hj), by simp⟩
    · rw [if_neg e]
      refine .inr ⟨⟨g, 1, none⟩, cap - 1, by rw [HL.out], ?_, by rw [HL.out]; omega⟩
      have := (row_part HR.out).drop 1
      simpa using this
  obtain ⟨v', w1, hrun, k1, k2, k3⟩ := run_append_slc w base 28 (.slice none 0 0) _ [] q (own_nil w base) hu (by simp [HL.out]; omega) hb
  have hbel : Below w.heap.size w w1 := (Below.refl _ _).grown k2 (Nat.le_refl _) (fun k e => by simp [Value.ownBlock] at e)
  have hrow := H.out.row.keep hbel
  have f1 := hrow.frozen 0
  have c1 : w1.cell? ⟨r, 0, none⟩ = some (.slice (some ⟨g, 0, none⟩) (L + 1) cap) := by have := hrow.cell 0; simpa [HL.out] using this
  have hlies : Lies w none v' := fun b e => by
    rcases k3 with k3 | k3
    · rw [k3] at e
      simp [Value.ownBlock] at e
    · rw [k3] at e
      injection e with e
      exact .inr (by omega)
  have hne : v'.ownBlock ≠ some r := fun e => by
    rcases hlies r e with h | h
    · cases h
    · have := H.out.row.lt
      omega
  obtain ⟨A', c', rfl⟩ := own_is (xs := q) (by simpa using k1)
  rw [HL.out] at hrun k1 hlies hne
  have HRUN := veil hrun
  rw [List.nil_append] at k1
  have K1 := veil k1
  have HB := veil hbel
  have HROW := veil hrow
  have HLS := veil hlies
  have HNE := veil hne
  clear hu hrun k1 k2 k3 hbel hrow hlies hne
  go_enter Try.func15, Try.ntmps15
  go_wp2_with (first | (at_builtin; refine wpList_append_run rfl (.const (.slice none 0 0)) (.tmp 21) rfl rfl rfl HRUN.out ?_))
  all_goals
    go_ret
    refine ⟨rfl, _, ⟨?_, ?_, HNE.out⟩, ?_, HLS.out⟩
    · have := HROW.out.set 0 (.slice A' L c')
      simpa using this
    · exact K1.out.gb (gb_set w1 r 0 _) HNE.out
    · exact (alt_below HB.out r none).trans (alt_set w1 r none 0 _) (.inl rfl)

theorem refNext_any {w : World} {base r : Nat} {v : Value} {q : List Int} (h : Rf w base r v q) (hb : base ≤ w.heap.size) (hq : q.length ≤ 2000) : Calls Try.prog 15 #[.pointer (some ⟨r, 0, none⟩)] w
    fun e w' => e = .returned (.int .u32 (q.headD 0)) ∧ ∃ v', Rf w' base r v' q.tail ∧ Alt w w' r none ∧ Lies w v.ownBlock v' := by
  match q, h with
  | [], h =>
    refine (refNext_none h).mono ?_
    rintro e w1 ⟨rfl, rfl⟩
    exact ⟨rfl, v, h, alt_refl _ _ _, fun b e => .inl e.symm⟩
  | x :: t, h =>
    refine (refNext_some h hb (by simp only [List.length_cons] at hq; omega)).mono ?_
    rintro e w1 ⟨rfl, v', k1, k2, k3⟩
    exact ⟨rfl, v', k1, k2, fun b e => (k3 b e).elim (fun h => by cases h) .inr⟩

theorem refBelow_any {w : World} {base r : Nat} {v : Value} {q : List Int} (n : Int) (hn : 0 ≤ n ∧ n ≤ 4294967295) (hy : Byt q) (h : Rf w base r v q) (hb : base ≤ w.heap.size) (hq : q.length ≤ 2000) : Calls Try.prog 17 #[.pointer (some ⟨r, 0, none⟩), .int .u32 n] w
    fun e w' => e = .returned (.int .u32 (low (q.headD 0) n)) ∧ ∃ v', Rf w' base r v' q.tail ∧ Alt w w' r none ∧ Lies w v.ownBlock v' := by
  have hx := head_u hy
  have HC := veil (refNext_any h hb hq)
  generalize q.headD 0 = x at *
  have hm := low_u hx hn
  have m0 := hm.1
  have m1 := hm.2
  have n0 := hn.1
  have n1 := hn.2
  have x0 := hx.1
  have x1 := hx.2
  clear hm hn hx h hb hq hy
  go_enter Try.func17, Try.ntmps17
  go_wp2_with fail
  refine (HC.out).mono ?_
  rintro e w1 ⟨rfl, h1⟩
  have H1 := veil h1
  clear h1
  go_wp2_with fail
  go_ret
  exact ⟨rfl, H1.out⟩

end Go.Proofs.Ytmjpmagfbiocnaa.W32
