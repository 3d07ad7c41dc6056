/-
  What a list of bytes that is filled, or whose room is filled, comes to: its own cells have the sign, all others are as they were; and that a list that has its signs is told so.
  Conditions: the list lies in a block of bytes that may be written.
-/
import Derived.Test.YtdebifkefpclaaaDoorMem
namespace Go.Proofs.YtdebifkefpclaaaDoor
open Go.RowKit

/-- n cells, from place lo of the list at A on, were written: v -/
structure Wr (w w' : World) (A : Option Addr) (lo n : Nat) (v : Value) : Prop where
  os : w'.os = w.os
  tape : w'.tape = w.tape
  output : w'.output = w.output
  size : w.heap.size ≤ w'.heap.size
  inn : ∀ b o, A = some ⟨b, o, none⟩ → ∀ i, i < n → w'.cell? ⟨b, o + lo + i, none⟩ = some v
  out : ∀ g i, g < w.heap.size → (∀ b o, A = some ⟨b, o, none⟩ → g = b → ¬ (o + lo ≤ i ∧ i < o + lo + n)) → w'.cell? ⟨g, i, none⟩ = w.cell? ⟨g, i, none⟩
  rows : ∀ g t cs, Row w g t cs → ∃ cs', Row w' g t cs' ∧ cs'.size = cs.size
  far : ∀ g, g < w.heap.size → (∀ a, A = some a → g ≠ a.block) → w'.heap[g]? = w.heap[g]?

theorem Wr.none_ {w w' : World} (hb : Below w.heap.size w w') (A : Option Addr) (lo : Nat) (v : Value) : Wr w w' A lo 0 v :=
  ⟨hb.os, hb.tape, hb.output, hb.size, fun _ _ _ i hi => absurd hi (by omega), fun _ _ hg _ => hb.cell hg, fun _ _ cs h => ⟨cs, h.keep hb, rfl⟩, fun g hg _ => hb.block g hg⟩
theorem Wr.after {w w1 w' : World} {A : Option Addr} {lo n : Nat} {v : Value} (hb : Below w.heap.size w w1) (h : Wr w1 w' A lo n v) : Wr w w' A lo n v :=
  ⟨h.os.trans hb.os, h.tape.trans hb.tape, h.output.trans hb.output, Nat.le_trans hb.size h.size, h.inn,
   fun g i hg ho => (h.out g i (Nat.lt_of_lt_of_le hg hb.size) ho).trans (hb.cell (p := ⟨g, i, none⟩) hg), fun g t cs hr => h.rows g t cs (hr.keep hb), fun g hg ha => (h.far g (Nat.lt_of_lt_of_le hg hb.size) ha).trans (hb.block g hg)⟩
theorem Wr.still {w w1 w' : World} {A : Option Addr} {lo n : Nat} {v : Value} (h : Wr w w1 A lo n v) (hs : Still w1 w') : Wr w w' A lo n v := by
  obtain ⟨q, rfl⟩ := hs
  exact ⟨h.os, h.tape, h.output, h.size, h.inn, h.out, h.rows, h.far⟩
theorem Wr.step {w wr : World} {b o lo j : Nat} {v : Value} {t : TypeId} {cs : Array Value} (h : Wr w wr (some ⟨b, o, none⟩) lo j v) (hr : Row w b t cs) (hi : o + lo + j < cs.size) :
    Wr w (wr.setCell ⟨b, o + lo + j, none⟩ v) (some ⟨b, o, none⟩) lo (j + 1) v := by
  obtain ⟨cs', hr', hs'⟩ := h.rows b t cs hr
  refine ⟨h.os, h.tape, h.output, by simpa [World.setCell] using h.size, ?_, ?_, ?_, ?_⟩
  · intro b' o' e i hij
    injection e with e
    injection e with e1 e2
    subst e1 e2
    by_cases hij' : i = j
    · subst hij'
      rw [(hr'.set (o + lo + i) v).cell]
      simp [hs', hi]
    · rw [World.cell?_setCell_other _ _ _ _ (by intro e; injection e with _ e; omega)]
      exact h.inn _ _ rfl i (by omega)
  · intro g i hg ho
    have hne : (⟨g, i, none⟩ : Addr) ≠ ⟨b, o + lo + j, none⟩ := by
      intro e
      injection e with e1 e2
      exact ho b o rfl e1 (by omega)
    rw [World.cell?_setCell_other _ _ _ _ hne.symm]
    exact h.out g i hg (fun b' o' e hb hx => ho b' o' e hb (by omega))
  · intro g t' cs2 hr2
    obtain ⟨cs3, hr3, hs3⟩ := h.rows g t' cs2 hr2
    by_cases hg : g = b
    · subst hg
      exact ⟨_, hr3.set (o + lo + j) v, by simp [hs3]⟩
    · exact ⟨cs3, hr3.far (p := ⟨b, o + lo + j, none⟩) hg v, hs3⟩
  · intro g hg ha
    rw [Below.heap_setCell wr ⟨b, o + lo + j, none⟩ v g (ha ⟨b, o, none⟩ rfl)]
    exact h.far g hg ha

/-- a list, as the book has it -/
def stripV (A : Option Addr) (n c : Nat) (x y : Int) : Value := .agg #[.slice A n c, .int .u8 x, .int .u8 y]
/-- its cells may be written -/
def Wide (w : World) (A : Option Addr) (n c : Nat) : Prop := n ≤ c ∧ c ≤ 16777216 ∧ (0 < c → ∃ b o cs, A = some ⟨b, o, none⟩ ∧ Row w b 5 cs ∧ o + c ≤ cs.size)

set_option maxHeartbeats 1000000 in
theorem fill_any (A : Option Addr) (n c : Nat) (x y : Int) (w : World) (hw : Wide w A n c) :
    Calls Tryd.prog 142 #[.agg #[.slice A n c, .int .u8 x, .int .u8 y]] w fun e w' => e = .returned (.tuple #[]) ∧ Wr w w' A 0 n (.int .u8 x) := by
  obtain ⟨hnc, hc, hA⟩ := hw
  have HA := veil hA
  clear hA
  go_enter Tryd.func142, Tryd.ntmps142
  go_wp2_with fail
  have hB : Row (w.alloc (.cells #[.slice A n c, .int .u8 x, .int .u8 y] 92)) w.heap.size 92 #[.slice A n c, .int .u8 x, .int .u8 y] := row_new rfl
  have hb := below_new w (.cells #[.slice A n c, .int .u8 x, .int .u8 y] 92)
  have hs : (w.alloc (.cells #[.slice A n c, .int .u8 x, .int .u8 y] 92)).heap.size = w.heap.size + 1 := by simp
  generalize w.alloc (.cells #[.slice A n c, .int .u8 x, .int .u8 y] 92) = w1 at hB hb hs ⊢
  have HS := veil hs
  have HB := veil hB
  have Hb := veil hb
  clear hs hB hb
  go_loopw [2] (fun i wr => ∃ j : Nat, j ≤ n ∧ i = .int .i64 j ∧ Hid (Wr w1 wr A 0 j (.int .u8 x))) (fun i _ => n - (intOf i).toNat)
  case atStart => exact ⟨0, Nat.zero_le _, rfl, Wr.none_ (Below.refl _ _) _ _ _⟩
  case round =>
    obtain ⟨j, hj, rfl, hW⟩ := hrel
    by_cases hlt : j < n
    · obtain ⟨b, o, cs, rfl, hr, ho⟩ := HA.out (by omega)
      have hne : w.heap.size ≠ b := by have := hr.lt; omega
      have hr1 := hr.keep Hb.out
      obtain ⟨cs', hr', hs'⟩ := hW.out.rows b _ cs hr1
      have c0 : wr.cell? ⟨w.heap.size, 0, none⟩ = some (.slice (some ⟨b, o, none⟩) n c) := by
        rw [hW.out.out w.heap.size 0 (by rw [HS.out]; omega) (fun b' o' e hb' => by injection e with e; injection e with e1 e2; omega)]
        exact HB.out.cell 0
      have c1 : wr.cell? ⟨w.heap.size, 1, none⟩ = some (.int .u8 x) := by
        rw [hW.out.out w.heap.size 1 (by rw [HS.out]; omega) (fun b' o' e hb' => by injection e with e; injection e with e1 e2; omega)]
        exact HB.out.cell 1
      obtain ⟨u, c2⟩ : ∃ u, wr.cell? ⟨b, o + j, none⟩ = some u := ⟨_, by rw [hr'.cell, Array.getElem?_eq_getElem (by omega)]⟩
      have f2 := hr'.frozen (o + j)
      have hS := veil (hW.out.step hr1 (by omega))
      clear hr' hr1 hr hne
      go_wp2_with fail
      go_roundw
      case rel => exact ⟨j + 1, by omega, by go_num, by simpa using hS⟩
      case measure => simp [intOf]; omega
    · have e : j = n := by omega
      subst e
      have c0 : wr.cell? ⟨w.heap.size, 0, none⟩ = some (.slice A j c) := by
        by_cases hc0 : 0 < c
        · obtain ⟨b, o, cs, rfl, hr, ho⟩ := HA.out hc0
          have hne : w.heap.size ≠ b := by have := hr.lt; omega
          rw [hW.out.out w.heap.size 0 (by rw [HS.out]; omega) (fun b' o' e hb' => by injection e with e; injection e with e1 e2; omega)]
          exact HB.out.cell 0
        · rw [hW.out.out w.heap.size 0 (by rw [HS.out]; omega) (fun b' o' _ _ => by omega)]
          exact HB.out.cell 0
      go_wp2_with fail
      go_end0
      exact ⟨rfl, hW.out.after Hb.out⟩

set_option maxHeartbeats 1000000 in
theorem fillRoom_any (A : Option Addr) (n c : Nat) (x y : Int) (w : World) (hw : Wide w A n c) :
    Calls Tryd.prog 143 #[.agg #[.slice A n c, .int .u8 x, .int .u8 y]] w fun e w' => e = .returned (.tuple #[]) ∧ Wr w w' A n (c - n) (.int .u8 y) := by
  obtain ⟨hnc, hc, hA⟩ := hw
  by_cases hcn : c = n
  · subst hcn
    go_enter Tryd.func143, Tryd.ntmps143
    go_wp2_with fail
    go_loopw [3] (fun i wr => i = .int .i64 0 ∧ wr = w.alloc (.cells #[.slice A c c, .int .u8 x, .int .u8 y] 92)) (fun _ _ => 0)
    case atStart => exact ⟨rfl, rfl⟩
    case round =>
      obtain ⟨rfl, rfl⟩ := hrel
      go_wp2_with fail
      go_end0
      exact ⟨rfl, by rw [Nat.sub_self]; exact Wr.none_ (below_new _ _) _ _ _⟩
  · obtain ⟨b, o, cs, rfl, hr, ho⟩ := hA (by omega)
    clear hA
    have hlt : n < c := by omega
    have hnc' : ¬ c = n := by omega
    have HR := veil hr
    clear hr
    go_enter Tryd.func143, Tryd.ntmps143
    go_wp2_with fail
    have hB : Row (w.alloc (.cells #[.slice (some ⟨b, o, none⟩) n c, .int .u8 x, .int .u8 y] 92)) w.heap.size 92 #[.slice (some ⟨b, o, none⟩) n c, .int .u8 x, .int .u8 y] := row_new rfl
    have hb := below_new w (.cells #[.slice (some ⟨b, o, none⟩) n c, .int .u8 x, .int .u8 y] 92)
    have hs : (w.alloc (.cells #[.slice (some ⟨b, o, none⟩) n c, .int .u8 x, .int .u8 y] 92)).heap.size = w.heap.size + 1 := by simp
    generalize w.alloc (.cells #[.slice (some ⟨b, o, none⟩) n c, .int .u8 x, .int .u8 y] 92) = w1 at hB hb hs ⊢
    have HS := veil hs
    have HB := veil hB
    have Hb := veil hb
    clear hs hB hb
    go_loopw [3] (fun i wr => ∃ j : Nat, j ≤ c - n ∧ i = .int .i64 j ∧ Hid (Wr w1 wr (some ⟨b, o, none⟩) n j (.int .u8 y))) (fun i _ => (c - n) - (intOf i).toNat)
    case atStart => exact ⟨0, Nat.zero_le _, rfl, Wr.none_ (Below.refl _ _) _ _ _⟩
    case round =>
      obtain ⟨j, hj, rfl, hW⟩ := hrel
      by_cases hjc : j < c - n
      · have hne : w.heap.size ≠ b := by have := HR.out.lt; omega
        have hr1 := HR.out.keep Hb.out
        obtain ⟨cs', hr', hs'⟩ := hW.out.rows b _ cs hr1
        have c1 : wr.cell? ⟨w.heap.size, 2, none⟩ = some (.int .u8 y) := by
          rw [hW.out.out w.heap.size 2 (by rw [HS.out]; omega) (fun b' o' e hb' => by injection e with e; injection e with e1 e2; omega)]
          exact HB.out.cell 2
        obtain ⟨u, c2⟩ : ∃ u, wr.cell? ⟨b, o + n + j, none⟩ = some u := ⟨_, by rw [hr'.cell, Array.getElem?_eq_getElem (by omega)]⟩
        have f2 := hr'.frozen (o + n + j)
        have hS := veil (hW.out.step hr1 (by omega))
        clear hr' hr1 hne
        go_wp2_with fail
        go_roundw
        case rel => exact ⟨j + 1, by omega, by go_num, hS⟩
        case measure => simp [intOf]; omega
      · have e : j = c - n := by omega
        subst e
        go_wp2_with fail
        go_end0
        exact ⟨rfl, hW.out.after Hb.out⟩

/-- a list has its signs -/
def Has (w : World) (A : Option Addr) (n c : Nat) (x y : Int) : Prop :=
  ∀ b o, A = some ⟨b, o, none⟩ → (∀ i, i < n → w.cell? ⟨b, o + i, none⟩ = some (.int .u8 x)) ∧ ∀ i, i < c - n → w.cell? ⟨b, o + n + i, none⟩ = some (.int .u8 y)

set_option maxHeartbeats 1000000 in
theorem kept_any (A : Option Addr) (n c : Nat) (x y : Int) (w : World) (hw : Wide w A n c) (hh : Has w A n c x y) :
    Calls Tryd.prog 144 #[.agg #[.slice A n c, .int .u8 x, .int .u8 y]] w fun e w' => e = .returned (.bool true) ∧ Below w.heap.size w w' := by
  obtain ⟨hnc, hc, hA⟩ := hw
  have HA := veil hA
  have HH := veil hh
  clear hA hh
  go_enter Tryd.func144, Tryd.ntmps144
  go_wp2_with fail
  have hB : Row (w.alloc (.cells #[.slice A n c, .int .u8 x, .int .u8 y] 92)) w.heap.size 92 #[.slice A n c, .int .u8 x, .int .u8 y] := row_new rfl
  have hb := below_new w (.cells #[.slice A n c, .int .u8 x, .int .u8 y] 92)
  generalize w.alloc (.cells #[.slice A n c, .int .u8 x, .int .u8 y] 92) = w1 at hB hb ⊢
  have HB := veil hB
  have Hb := veil hb
  clear hB hb
  go_loopw [3] (fun i wr => ∃ j q : Nat, j ≤ n ∧ i = .int .i64 j ∧ wr = w1.drewN q) (fun i _ => n - (intOf i).toNat)
  case atStart => exact ⟨0, 0, Nat.zero_le _, rfl, rfl⟩
  case round =>
    obtain ⟨j, q, hj, rfl, rfl⟩ := hrel
    have c0 : w1.cell? ⟨w.heap.size, 0, none⟩ = some (.slice A n c) := HB.out.cell 0
    by_cases hlt : j < n
    · obtain ⟨b, o, cs, rfl, hr, ho⟩ := HA.out (by omega)
      have c1 : w1.cell? ⟨w.heap.size, 1, none⟩ = some (.int .u8 x) := HB.out.cell 1
      have c2 : w1.cell? ⟨b, o + j, none⟩ = some (.int .u8 x) := by
        rw [Hb.out.cell (p := ⟨b, o + j, none⟩) hr.lt]
        exact (HH.out b o rfl).1 j hlt
      clear hr
      go_wp2_with fail
      go_quiet (fail)
      go_wp2_with fail
      go_roundw
      case rel => exact ⟨j + 1, _, by omega, by go_num, rfl⟩
      case measure => simp [intOf]; omega
    · have e : j = n := by omega
      subst e
      by_cases hcn : c = j
      · subst hcn
        go_wp2_with fail
        go_loopw [5] (fun i wr => i = .int .i64 0 ∧ wr = w1.drewN q) (fun _ _ => 0)
        case atStart => exact ⟨rfl, rfl⟩
        case round =>
          obtain ⟨rfl, rfl⟩ := hrel
          go_wp2_with fail
          go_ret
          exact ⟨rfl, below_still Hb.out ⟨q, rfl⟩⟩
      · obtain ⟨b, o, cs, rfl, hr, ho⟩ := HA.out (by omega)
        have c1 : w1.cell? ⟨w.heap.size, 2, none⟩ = some (.int .u8 y) := HB.out.cell 2
        have HRL := veil hr
        clear hr
        go_wp2_with fail
        go_loopw [5] (fun i wr => ∃ k q : Nat, k ≤ c - j ∧ i = .int .i64 k ∧ wr = w1.drewN q) (fun i _ => (c - j) - (intOf i).toNat)
        case atStart => exact ⟨0, q, Nat.zero_le _, rfl, rfl⟩
        case round =>
          obtain ⟨k, q, hk, rfl, rfl⟩ := hrel
          by_cases hkc : k < c - j
          · have c2 : w1.cell? ⟨b, o + j + k, none⟩ = some (.int .u8 y) := by
              rw [Hb.out.cell (p := ⟨b, o + j + k, none⟩) HRL.out.lt]
              exact (HH.out b o rfl).2 k hkc
            go_wp2_with fail
            go_quiet (fail)
            go_wp2_with fail
            go_roundw
            case rel => exact ⟨k + 1, _, by omega, by go_num, rfl⟩
            case measure => simp [intOf]; omega
          · go_wp2_with fail
            go_ret
            exact ⟨rfl, below_still Hb.out ⟨q, rfl⟩⟩

end Go.Proofs.YtdebifkefpclaaaDoor
